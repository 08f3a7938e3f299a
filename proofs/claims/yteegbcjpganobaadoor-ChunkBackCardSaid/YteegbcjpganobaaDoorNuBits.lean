/- Contracts of the library's formatBits and FormatInt at base sixteen, and of PutHex of package num, of every number; where the tables lie as the program's text lays them. -/
import Derived.Test.YteegbcjpganobaaDoorNuPuts
import Derived.Laws.BitsLemmas
import Derived.Laws.Bits64
namespace Go.Proofs.YteegbcjpganobaaDoor.Nu
open Go.RowKit
set_option linter.unusedSimpArgs false
set_option linter.unusedVariables false

theorem pow2_c (w : World) : Calls Tryd.prog 45 #[.int .i64 16] w fun e w' => e = .returned (.bool true) ∧ w = w' := by
  go_enter Tryd.func45, Tryd.ntmps45
  go_wp2
  go_ret
  exact ⟨rfl, rfl⟩
theorem and_16 : bits BinOp.and IntKind.u64 16 (IntKind.u64.wrap (-16)) = 16 := by decide +kernel
theorem mul_16 : IntKind.u64.wrap (16 * 285870213051353865) = 4573923408821661840 := by decide +kernel
theorem tz64_c (w : World) (hT : Tabs w) : Calls Tryd.prog 60 #[.int .u64 16] w fun e w' => e = .returned (.int .i64 4) ∧ w = w' := by
  obtain ⟨t, f, h2⟩ := hT.2
  have hc : w.cell? ⟨2, 15, none⟩ = some (.int .u8 4) := cell_of_row w 2 15 brV t f h2
  have e1 := and_16
  have e2 := mul_16
  clear hT h2
  go_enter Tryd.func60, Tryd.ntmps60
  go_wp2
  go_ret
  exact ⟨rfl, rfl⟩
theorem tz_c (w : World) (hT : Tabs w) : Calls Tryd.prog 46 #[.int .u64 16] w fun e w' => e = .returned (.int .i64 4) ∧ w = w' := by
  have H := Lib.hid (tz64_c w hT)
  clear hT
  go_enter Tryd.func46, Tryd.ntmps46
  go_wp2_with fail
  refine H.out.mono ?_
  rintro e w' ⟨rfl, rfl⟩
  go_wp2
  go_ret
  exact ⟨rfl, rfl⟩
theorem wraps63 (n : Int) (h₀ : 0 ≤ n) (h₁ : n < 2 ^ 63) : IntKind.u64.wrap n = n := by rw [IntKind.wrap_u64]; omega
theorem and_15 (v : Int) (h0 : 0 ≤ v) (h1 : v ≤ 9223372036854775807) : bits .and .u64 v 15 = v % 16 := bits_mask .u64 63 (by decide) wraps63 4 (by decide) v h0 (by omega)

def zeros65 : Array Value := Array.replicate 65 (.int .u8 0)
theorem zero56 (w : World) : Sem.run Tryd.prog (zeroValue 84) w = Result.ok (.agg zeros65) w := by kernel_rfl
/-- block g holds just these bytes, and may be written -/
def BRow (w : World) (g : Nat) (l : List UInt8) : Prop := ∀ j (hj : j < l.length), w.cell? ⟨g, j, none⟩ = some (.int .u8 (l[j].toNat : Int)) ∧ w.frozen? ⟨g, j, none⟩ = false
theorem BRow.set {w : World} {g : Nat} {l : List UInt8} (h : BRow w g l) (k : Nat) (b : UInt8) : BRow (w.setCell ⟨g, k, none⟩ (.int .u8 (b.toNat : Int))) g (l.set k b) := by
  intro j hj
  have hj' : j < l.length := by simpa using hj
  refine ⟨?_, (World.frozen?_setCell _ _ _ _).trans (h j hj').2⟩
  by_cases e : k = j
  · subst e
    rw [World.cell?_setCell_same w _ _ (h k hj').1]
    simp
  · rw [World.cell?_setCell_other w _ _ _ (by intro he; injection he; omega), (h j hj').1]
    simp [e]
theorem zero_row (w : World) : BRow (w.alloc (.cells zeros65 84)) w.heap.size (List.replicate 65 0) := by
  intro j hj
  have hj2 : j < 65 := by simpa using hj
  refine ⟨?_, World.frozen?_alloc_at _ _ _ _ rfl⟩
  rw [World.cell?_alloc_at _ _ _ _ rfl, List.getElem_replicate]
  unfold zeros65
  rw [Array.getElem?_replicate, if_pos hj2]
  rfl
theorem row_back {w : World} {g : Nat} {l : List UInt8} (h : BRow w g l) (i n cap : Nat) (hn : i + n = l.length) : (convert 34 9 (.slice (some ⟨g, i, none⟩) n cap)).run Tryd.prog w = .ok (.string (mkS (l.drop i))) w := by
  have hl : n = (l.drop i).length := by rw [List.length_drop]; omega
  subst hl
  exact run_convert_bytes_back w 34 9 5 ⟨g, i, none⟩ cap (l.drop i) Tryd.underlying34 Tryd.underlying5 Tryd.underlying9 (fun j hj => by
    have e : (⟨g, i, none⟩ : Addr).add j = ⟨g, i + j, none⟩ := by unfold Addr.add; split <;> simp_all
    rw [e, List.getElem_drop]
    exact (h (i + j) (by rw [List.length_drop] at hj; omega)).1)
def dig36 : List UInt8 := [48, 49, 50, 51, 52, 53, 54, 55, 56, 57, 97, 98, 99, 100, 101, 102, 103, 104, 105, 106, 107, 108, 109, 110, 111, 112, 113, 114, 115, 116, 117, 118, 119, 120, 121, 122]
theorem dig_lit : (ByteArray.mk #[48, 49, 50, 51, 52, 53, 54, 55, 56, 57, 97, 98, 99, 100, 101, 102, 103, 104, 105, 106, 107, 108, 109, 110, 111, 112, 113, 114, 115, 116, 117, 118, 119, 120, 121, 122]) = mkS dig36 := rfl
theorem dig_at : ∀ m : Fin 16, dig36.getD m.val 0 = hxd m.val := by decide +kernel

theorem len56 : Tryd.prog.arrayLen 84 = 65 := by simp [Program.arrayLen, Tryd.underlying84]
theorem slice_l (g j : Nat) (h : j < 65) (W : World) : (Instr.sliceAt 84 (.pointer (some ⟨g, 0, none⟩)) (some (.int .i64 (j : Int))) none none).run Tryd.prog W = .ok (.slice (some ⟨g, j, none⟩) (65 - j) (65 - j)) W := by
  rw [run_sliceAt_array_l W 84 ⟨g, 0, none⟩ (by simp [Program.arrayLen, Program.elem, Tryd.underlying84]) .i64 (j : Int) (by omega) (by rw [len56]; omega), len56]
  go_simp
  omega
theorem set_drop (r : List UInt8) (j : Nat) (x : UInt8) (h : j < r.length) : (r.set j x).drop j = x :: r.drop (j + 1) := by
  rw [List.drop_set, if_neg (by omega), Nat.sub_self, List.drop_eq_getElem_cons h, List.set_cons_zero]

set_option maxRecDepth 100000 in
set_option maxHeartbeats 1000000 in
theorem fbits_c (u : Nat) (w : World) (hu : u ≤ 9223372036854775807) (hT : Tabs w) : Calls Tryd.prog 33 #[.slice none 0 0, .int .u64 (u : Int), .int .i64 16, .bool false, .bool false] w fun e w' => e = .returned (.tuple #[.slice none 0 0, .string (mkS (hexL u))]) ∧ Below w.heap.size w w' := by
  have HT : Hid (Tabs (w.alloc (.cells zeros65 84))) := hT.go ((Below.refl _ _).alloc (Nat.le_refl _) _)
  have HB := Lib.hid ((Below.refl w.heap.size w).alloc (Nat.le_refl _) (.cells zeros65 84))
  have HR := Lib.hid (zero_row w)
  have HZ := Lib.hid (fun W => zero56 W)
  clear hT
  have hz := HZ.out
  go_enter Tryd.func33, Tryd.ntmps33
  rw [dig_lit]
  generalize hF : mkS dig36 = F
  have HF := Lib.hid hF
  have hFs : F.size = 36 := by rw [← hF]; rfl
  have HX : Hid (∀ (m : Nat) (h : m < F.size), m < 16 → F[m] = hxd m) := fun m h hm => by
    rw [← getD_at F m h, ← hF, data_mkS]
    exact dig_at ⟨m, hm⟩
  clear hF
  go_wp2_with (go_at_call 45; refine (pow2_c _).mono ?_; rintro e w' ⟨rfl, rfl⟩)
  clear hz HZ
  revert HT HB HR
  generalize w.alloc (.cells zeros65 84) = W1
  intro HT HB HR
  refine (tz_c _ HT.out).mono ?_
  rintro e w' ⟨rfl, rfl⟩
  have HL : Hid ((hexL u).length ≤ 65) := by
    show (hexL u).length ≤ 65
    have := hex_len 15 u (by have : (16 : Nat) ^ (15 + 1) = 18446744073709551616 := by decide
                             omega)
    omega
  clear HT
  go_wp2
  go_loopw [1, 13] (fun a b wr => ∃ (v i : Nat) (r : List UInt8), a = .int .u64 (v : Int) ∧ b = .int .i64 (i : Int) ∧ v ≤ 9223372036854775807 ∧ i ≤ 65 ∧ r.length = 65 ∧ (hexL v).length ≤ i ∧ hexL v ++ r.drop i = hexL u ∧ BRow wr w.heap.size r ∧ Below w.heap.size w wr) (fun a _ _ => (intOf a).toNat)
  case atStart => exact ⟨u, 65, List.replicate 65 0, rfl, rfl, hu, by omega, by simp, HL.out, by rw [List.drop_of_length_le (by simp)]; simp, HR.out, HB.out⟩
  case round =>
    clear HL HR HB
    obtain ⟨v, i, r, rfl, rfl, hv, hi, hrl, hlen, heq, hrow, hB⟩ := hrel
    have HRL := Lib.hid hrl
    have HLN := Lib.hid hlen
    have HEQ := Lib.hid heq
    have HR := Lib.hid hrow
    have HB := Lib.hid hB
    have hpos := hex_pos v
    obtain ⟨j, rfl⟩ : ∃ j, i = j + 1 := ⟨i - 1, by omega⟩
    have hj : j < r.length := by omega
    obtain ⟨z, hc⟩ : ∃ z : UInt8, wr.cell? ⟨w.heap.size, j, none⟩ = some (.int .u8 (z.toNat : Int)) := ⟨_, (hrow j hj).1⟩
    have hf : wr.frozen? ⟨w.heap.size, j, none⟩ = false := (hrow j hj).2
    have ej : ((j + 1 : Nat) : Int) - 1 = (j : Int) := by omega
    have ej2 : (j : Int) + 1 - 1 = (j : Int) := by omega
    clear hrl hlen heq hrow hB hpos
    by_cases h16 : v < 16
    · have h16' : ¬ (16 : Int) ≤ (v : Int) := by omega
      have hsl := slice_l w.heap.size j (by omega)
      have hx := HX.out v (by omega) h16
      have hone := hex_one h16
      have HE : Hid ((r.set j F[v]).drop j = hexL u) := by
        show (r.set j F[v]).drop j = hexL u
        rw [set_drop r j _ hj, ← HEQ.out, hone, hx]; rfl
      have hrow2 := HR.out.set j F[v]
      have hcv := row_back hrow2 j (65 - j) (65 - j) (by rw [List.length_set, HRL.out]; omega)
      rw [HE.out] at hcv
      clear hx hone hrow2
      go_wp2
      go_ret2
      exact ⟨rfl, HB.out.setCell (by simp) _⟩
    · have h16' : (16 : Int) ≤ (v : Int) := by omega
      have ha := and_15 (v : Int) (by omega) (by omega)
      go_wp2
      have hm16 : v % 16 < 16 := by omega
      have hx := HX.out (v % 16) (by omega) hm16
      go_roundw
      case rel =>
        have hm := hex_more h16
        refine ⟨v / 16, j, r.set j (hxd (v % 16)), by rw [show ((v / 16 : Nat) : Int) = (v : Int) / 16 by omega], rfl, by omega, by omega, by rw [List.length_set]; exact HRL.out, ?_, ?_, ?_, HB.out.setCell (by simp) _⟩
        · have := HLN.out; rw [hm, List.length_append] at this; simp at this; omega
        · rw [set_drop r j _ hj, ← HEQ.out, hm]; simp
        · have := HR.out.set j (hxd (v % 16)); rw [← hx] at this; rw [← hx]; exact this
      case measure => simp [intOf]; omega
end Go.Proofs.YteegbcjpganobaaDoor.Nu
