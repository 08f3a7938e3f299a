/- Contracts of package page's Print and of the document's: for every cursor, where the library's tables lie as the program's text lays them. -/
import Derived.Test.YtbafjilhopgjmaaDoorPgB
namespace Go.Proofs.YtbafjilhopgjmaaDoor.Pg
open Go.RowKit Ch
set_option linter.unusedSimpArgs false
set_option linter.unusedVariables false

theorem new2 (w : World) (a b : Value) (T : TypeId) : (w.alloc (.cells #[a, b] T)).cell? ⟨w.heap.size, 0, none⟩ = some a ∧ (w.alloc (.cells #[a, b] T)).cell? ⟨w.heap.size, 1, none⟩ = some b := by
  have hk := heap_alloc_new w (.cells #[a, b] T)
  exact ⟨cell_of_row _ _ 0 _ _ _ hk, cell_of_row _ _ 1 _ _ _ hk⟩
def PgK (w : World) (W : World) : Prop := Nu.Tabs W ∧ Below w.heap.size w W ∧ w.heap.size < W.heap.size
theorem PgK.go {w W W' : World} (h : PgK w W) (hb : Below W.heap.size W W') : PgK w W' := ⟨h.1.go hb, h.2.1.trans (hb.mono h.2.1.size), Nat.lt_of_lt_of_le h.2.2 hb.size⟩
theorem bel_drew (W : World) : Below W.heap.size W W.drew := ⟨rfl, rfl, rfl, Nat.le_refl _, fun _ _ => rfl⟩
theorem PgK.drew {w W : World} (h : PgK w W) : PgK w W.drew := h.go (bel_drew W)
/-- during Print: the call's own block holds the cursor -/
def PrK (w : World) (a b : Int) (W : World) : Prop := W.cell? ⟨w.heap.size, 0, none⟩ = some (.int .i64 a) ∧ W.cell? ⟨w.heap.size, 1, none⟩ = some (.int .i64 b) ∧ PgK w W
theorem PrK.go {w : World} {a b : Int} {W W' : World} (h : PrK w a b W) (hb : Below W.heap.size W W') : PrK w a b W' :=
  ⟨(hb.cell (p := ⟨w.heap.size, 0, none⟩) h.2.2.2.2).trans h.1, (hb.cell (p := ⟨w.heap.size, 1, none⟩) h.2.2.2.2).trans h.2.1, h.2.2.go hb⟩
theorem PrK.drew {w : World} {a b : Int} {W : World} (h : PrK w a b W) : PrK w a b W.drew := h.go (bel_drew W)
theorem PrK.new {w : World} {a b : Int} (T : TypeId) (h : Nu.Tabs w) : PrK w a b (w.alloc (.cells #[.int .i64 a, .int .i64 b] T)) := by
  have hb : Below w.heap.size w (w.alloc (.cells #[.int .i64 a, .int .i64 b] T)) := (Below.refl _ _).alloc (Nat.le_refl _) _
  exact ⟨(new2 w _ _ _).1, (new2 w _ _ _).2, h.go hb, hb, by rw [World.size_alloc]; exact Nat.lt_succ_self _⟩
theorem pr_str (a b : Int) : (⟨#[112]⟩ ++ mkS (Lib.itoa a) ++ ⟨#[46]⟩ ++ mkS (Lib.itoa b) : ByteArray) = mkS (txC a b) := mkS_of (by
  rw [app_data, app_data, app_data, data_mkS, data_mkS]
  unfold txC
  simp)
set_option maxRecDepth 100000 in
set_option maxHeartbeats 4000000 in
theorem print_ok (a b : Int) (w : World) (a0 : 1 ≤ a) (a1 : a ≤ 9223372036854775807) (b0 : 0 ≤ b) (b1 : b ≤ 9223372036854775807) (hT : Nu.Tabs w) :
    Calls Tryd.prog 6 #[.agg #[.int .i64 a, .int .i64 b]] w fun e w' => e = .returned (.string (mkS (txC a b))) ∧ Below w.heap.size w w' := by
  have HA : Hid (∀ W, Nu.Tabs W → Calls Tryd.prog 14 #[.int .i64 a] W fun e w' => e = .returned (.string (mkS (Lib.itoa a))) ∧ Below W.heap.size W w') := fun W => Nu.print_c a W (by omega) a1
  have HB : Hid (∀ W, Nu.Tabs W → Calls Tryd.prog 14 #[.int .i64 b] W fun e w' => e = .returned (.string (mkS (Lib.itoa b))) ∧ Below W.heap.size W w') := fun W => Nu.print_c b W (by omega) b1
  have HW : Hid (∃ W, W = w.alloc (.cells #[.int .i64 a, .int .i64 b] 25) ∧ PrK w a b W) := ⟨_, rfl, PrK.new _ hT⟩
  obtain ⟨W, hW, hK⟩ := HW.out
  obtain ⟨k0, k1, hG⟩ := hK
  have HK : Hid (PrK w a b W) := ⟨k0, k1, hG⟩
  have HWE := Lib.hid hW
  have HS := Lib.hid (pr_str a b)
  clear HW hW hG hT
  have hsa : (mkS (Lib.itoa a)).size ≤ 900 := by rw [size_mkS]; have := itoa_le a (by omega) a1; omega
  have hsb : (mkS (Lib.itoa b)).size ≤ 900 := by rw [size_mkS]; have := itoa_le b (by omega) b1; omega
  revert HA HB HS hsa hsb
  generalize mkS (Lib.itoa a) = sa
  generalize mkS (Lib.itoa b) = sb
  generalize mkS (txC a b) = st
  intro HA HB HS hsa hsb
  have q1 : ¬ 9223372036854775807 < 1 + sa.size := by omega
  have q2 : ¬ 9223372036854775807 < 1 + sa.size + 1 := by omega
  have q3 : ¬ 9223372036854775807 < 1 + sa.size + 1 + sb.size := by omega
  have n0 := (new2 w (.int .i64 a) (.int .i64 b) 25).1
  have n1 := (new2 w (.int .i64 a) (.int .i64 b) 25).2
  go_enter Tryd.func6, Tryd.ntmps6
  go_wp2_with fail
  rw [← HWE.out]
  clear HWE n0 n1
  go_region_held3 (fun V => V.cell? ⟨w.heap.size, 0, none⟩ = some (.int .i64 a) ∧ V.cell? ⟨w.heap.size, 1, none⟩ = some (.int .i64 b) ∧ PgK w V)
    (first | exact HK3.out | exact HK.out | exact HK.out.drew)
    (first
      | (go_at_call 14; refine (HA.out _ HK3.out.2.2.1).mono ?_; rintro e w4 ⟨rfl, hb3⟩; have HK3 := Lib.hid (HK3.out.go hb3); obtain ⟨k0, k1, _⟩ := HK3.out; clear hb3)
      | (go_at_call 14; refine (HA.out _ HK3.out.drew.2.2.1).mono ?_; rintro e w4 ⟨rfl, hb3⟩; have HK3 := Lib.hid (HK3.out.drew.go hb3); obtain ⟨k0, k1, _⟩ := HK3.out; clear hb3)
      | (go_at_call 14; refine (HB.out _ HK3.out.2.2.1).mono ?_; rintro e w4 ⟨rfl, hb3⟩; have HK3 := Lib.hid (HK3.out.go hb3); obtain ⟨k0, k1, _⟩ := HK3.out; clear hb3)
      | (go_at_call 14; refine (HB.out _ HK3.out.drew.2.2.1).mono ?_; rintro e w4 ⟨rfl, hb3⟩; have HK3 := Lib.hid (HK3.out.drew.go hb3); obtain ⟨k0, k1, _⟩ := HK3.out; clear hb3)
      | (go_at_call 14; refine (HA.out _ HK.out.2.2.1).mono ?_; rintro e w4 ⟨rfl, hb3⟩; have HK3 := Lib.hid (HK.out.go hb3); obtain ⟨k0, k1, _⟩ := HK3.out; clear hb3)
      | (go_at_call 14; refine (HA.out _ HK.out.drew.2.2.1).mono ?_; rintro e w4 ⟨rfl, hb3⟩; have HK3 := Lib.hid (HK.out.drew.go hb3); obtain ⟨k0, k1, _⟩ := HK3.out; clear hb3)
      | (go_at_call 14; refine (HB.out _ HK.out.2.2.1).mono ?_; rintro e w4 ⟨rfl, hb3⟩; have HK3 := Lib.hid (HK.out.go hb3); obtain ⟨k0, k1, _⟩ := HK3.out; clear hb3)
      | (go_at_call 14; refine (HB.out _ HK.out.drew.2.2.1).mono ?_; rintro e w4 ⟨rfl, hb3⟩; have HK3 := Lib.hid (HK.out.drew.go hb3); obtain ⟨k0, k1, _⟩ := HK3.out; clear hb3))
  all_goals go_wp2
  all_goals go_ret
  all_goals exact ⟨by rw [← HS.out]; rfl, HK3.out.2.2.2.1⟩
end Go.Proofs.YtbafjilhopgjmaaDoor.Pg
