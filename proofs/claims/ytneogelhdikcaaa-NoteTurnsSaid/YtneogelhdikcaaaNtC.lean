/- Contracts of package note's New, Last, Floor, Len, setOf, only: at every outbox and map of the call's own; no other condition. -/
import Derived.Test.YtneogelhdikcaaaNtB
namespace Go.Proofs.Ytneogelhdikcaaa.Nt
open Go.RowKit Go.Lib Go.Maps Go.ChangeMaps Go.MapKept Go.WideMaps
set_option linter.unusedSimpArgs false
set_option linter.unusedVariables false

set_option maxRecDepth 100000 in
set_option maxHeartbeats 1000000 in
theorem New_c (m : Int) (w : World) : Calls Try.prog 6 #[.int .i64 m] w fun e w' => e = .returned (.pointer (some ⟨w.heap.size, 0, none⟩)) ∧ IsOb w.heap.size w.heap.size none none m [] [] 0 0 w' ∧ Below w.heap.size w w' := by
  obtain ⟨W, hW, hk, hb⟩ := new5 w (.int .i64 m) (.map none) (.slice none 0 0) (.int .i64 0) (.int .i64 0) 54
  have HW := Lib.hid hW
  have HK := Lib.hid hk
  have HB := Lib.hid hb
  clear hW hk hb
  go_enter Try.func6, Try.ntmps6
  go_wp2
  rw [← HW.out]
  go_ret
  exact ⟨rfl, ⟨⟨_, HK.out, OwG.nil _ _ _, rfl⟩, by simp, by simp, (fun g h => by cases h), .inl ⟨rfl, rfl⟩, (fun g h => by cases h)⟩, HB.out⟩
set_option maxRecDepth 100000 in
set_option maxHeartbeats 1000000 in
theorem Floor_c {B c : Nat} {gb mb : Option Nat} {m : Int} {now : List Tx} {l : List Ent} {fl la : Int} {w : World} (h : IsOb B c gb mb m now l fl la w) : Calls Try.prog 13 #[.pointer (some ⟨c, 0, none⟩)] w fun e w' => e = .returned (.int .i64 fl) ∧ w' = w := by
  obtain ⟨v, hv, _, _⟩ := h.ex
  obtain ⟨c0, c1, c2, c3, c4⟩ := cells5 hv
  clear h hv
  go_enter Try.func13, Try.ntmps13
  go_wp2
  go_ret
  exact ⟨rfl, rfl⟩
set_option maxRecDepth 100000 in
set_option maxHeartbeats 1000000 in
theorem Last_c {B c : Nat} {gb mb : Option Nat} {m : Int} {now : List Tx} {l : List Ent} {fl la : Int} {w : World} (h : IsOb B c gb mb m now l fl la w) : Calls Try.prog 12 #[.pointer (some ⟨c, 0, none⟩)] w fun e w' => e = .returned (.int .i64 la) ∧ w' = w := by
  obtain ⟨v, hv, _, _⟩ := h.ex
  obtain ⟨c0, c1, c2, c3, c4⟩ := cells5 hv
  clear h hv
  go_enter Try.func12, Try.ntmps12
  go_wp2
  go_ret
  exact ⟨rfl, rfl⟩
set_option maxRecDepth 100000 in
set_option maxHeartbeats 1000000 in
theorem Len_c {B c : Nat} {gb mb : Option Nat} {m : Int} {now : List Tx} {l : List Ent} {fl la : Int} {w : World} (h : IsOb B c gb mb m now l fl la w) : Calls Try.prog 15 #[.pointer (some ⟨c, 0, none⟩)] w fun e w' => e = .returned (.int .i64 (l.length : Nat)) ∧ w' = w := by
  obtain ⟨v, hv, ho, _⟩ := h.ex
  obtain ⟨ao, cap, rfl, _, _⟩ := ho.form
  obtain ⟨c0, c1, c2, c3, c4⟩ := cells5 hv
  clear h hv ho
  go_enter Try.func15, Try.ntmps15
  go_wp2
  go_ret
  exact ⟨rfl, rfl⟩
theorem Floor_nil (w : World) : Calls Try.prog 13 #[.pointer none] w fun e w' => e = .returned (.int .i64 0) ∧ w' = w := by
  go_enter Try.func13, Try.ntmps13
  go_wp2
  go_ret
  exact ⟨rfl, rfl⟩
theorem Last_nil (w : World) : Calls Try.prog 12 #[.pointer none] w fun e w' => e = .returned (.int .i64 0) ∧ w' = w := by
  go_enter Try.func12, Try.ntmps12
  go_wp2
  go_ret
  exact ⟨rfl, rfl⟩
theorem Len_nil (w : World) : Calls Try.prog 15 #[.pointer none] w fun e w' => e = .returned (.int .i64 0) ∧ w' = w := by
  go_enter Try.func15, Try.ntmps15
  go_wp2
  go_ret
  exact ⟨rfl, rfl⟩
theorem Step_nil (r : Int) (v : Value) (w : World) : Calls Try.prog 9 #[.pointer none, .int .i64 r, v] w fun e w' => e = .returned (.slice none 0 0) ∧ w' = w := by
  go_enter Try.func9, Try.ntmps9
  go_wp2
  go_ret
  exact ⟨rfl, rfl⟩
theorem Firing_nil (w : World) : Calls Try.prog 16 #[.pointer none] w fun e w' => e = .returned (.slice none 0 0) ∧ w' = w := by
  go_enter Try.func16, Try.ntmps16
  go_wp2
  go_ret
  exact ⟨rfl, rfl⟩
theorem Since_nil (s : Int) (w : World) : Calls Try.prog 17 #[.pointer none, .int .i64 s] w fun e w' => e = .returned (.tuple #[.slice none 0 0, .int .i64 2]) ∧ w' = w := by
  go_enter Try.func17, Try.ntmps17
  go_wp2
  exact bodyPost_ret (v := .tuple #[.slice none 0 0, .int .i64 2]) (by simp [results, Try.results17, go_sem]) rfl ⟨rfl, rfl⟩
theorem run_mk (w : World) : (Instr.makeMap 52 none).run Try.prog w = .ok (.map (some w.heap.size)) (w.alloc (.map #[] 0)) := by simp [Instr.makeMap, run_underlying Try.underlying52]
set_option maxRecDepth 100000 in
set_option maxHeartbeats 2000000 in
theorem setOf_c (ao : Option Addr) (cap : Nat) (gs : List Tx) (w : World) (hR : RdT (.slice ao gs.length cap) gs w) (hl : gs.length ≤ 1000) (hsz : ∀ x ∈ gs, (mkS x).size ≤ maxLen) :
    Calls Try.prog 21 #[.slice ao gs.length cap] w fun e w' => e = .returned (.map (some w.heap.size)) ∧ SetF w.heap.size gs w' ∧ Below w.heap.size w w' := by
  obtain ⟨W0, hW0⟩ : ∃ W0, W0 = w.alloc (.map #[] 0) := ⟨_, rfl⟩
  have H0 : Hid (SetN w.heap.size 0 (gs.take 0) W0) := by rw [hW0]; exact SetN.made w
  have HB0 : Hid (Below w.heap.size w W0) := by rw [hW0]; exact (Below.refl _ _).alloc (Nat.le_refl _) _
  have hmk := run_mk w
  rw [← hW0] at hmk
  have HR := Lib.hid hR
  have HSZ := Lib.hid hsz
  clear hR hsz hW0
  obtain ⟨b, hb⟩ : ∃ b, b = w.heap.size := ⟨_, rfl⟩
  rw [← hb] at H0 hmk ⊢
  have HBE := Lib.hid hb
  have HB1 : Hid (Below b w W0) := by rw [hb]; exact HB0
  clear hb HB0
  go_enter Try.func21, Try.ntmps21
  go_wp2
  clear hmk
  go_loopw [9] (fun v wr => ∃ j : Nat, j ≤ gs.length ∧ v = .int .i64 j ∧ Hid (SetN b j (gs.take j) wr) ∧ Hid (Below b w wr)) (fun v _ => gs.length - (intOf v).toNat)
  case atStart => exact ⟨0, by omega, rfl, H0, HB1⟩
  case round =>
    clear H0 HB1
    obtain ⟨j, hj, rfl, HS, HB⟩ := hrel
    by_cases hlt : j < gs.length
    · obtain ⟨g, off, rfl, hg, hat⟩ := HR.out.at (by omega)
      have p0 := (HB.out.cell (p := ⟨g, off + j, none⟩) (by rw [HBE.out]; exact hg)).trans (cellT hat hlt)
      have hj0 : (0 : Int) ≤ (j : Int) := by omega
      have hjl : (j : Int) < (gs.length : Int) := by omega
      obtain ⟨w2, hst, hS2, hg2⟩ := HS.out.add (t := gs[j]) (HSZ.out _ (List.getElem_mem hlt)) (by unfold maxLen; omega)
      rw [← List.take_succ_eq_append_getElem hlt] at hS2
      have HS2 := Lib.hid hS2
      have HB2 : Hid (Below b w w2) := HB.out.trans ⟨hg2.os, hg2.tape, hg2.output, hg2.size, fun k hk => hg2.block k (by have := HB.out.size; have := HBE.out; omega) (fun e => by injection e with e; omega)⟩
      clear hS2 hg2 hat HS HB
      generalize gs[j] = t at *
      go_wp2
      go_roundw
      case rel => exact ⟨j + 1, by omega, by go_num, HS2, HB2⟩
      case measure => simp [intOf]; omega
    · have hjl : ¬ (j : Int) < (gs.length : Int) := by omega
      have e : gs.take j = gs := List.take_of_length_le (by omega)
      rw [e] at HS
      go_wp2
      go_ret
      exact ⟨rfl, ⟨j, by omega, HS.out⟩, HB.out⟩
end Go.Proofs.Ytneogelhdikcaaa.Nt
