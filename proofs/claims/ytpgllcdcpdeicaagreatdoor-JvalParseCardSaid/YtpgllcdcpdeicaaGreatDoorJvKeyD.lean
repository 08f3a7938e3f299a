/- Contract of package jval's key, where a key comes. -/
import Derived.Test.YtpgllcdcpdeicaaGreatDoorJvGb
namespace Go.Proofs.YtpgllcdcpdeicaaGreatDoor.Jv
open Jt
open Go.RowKit Go.ChangeMaps Go.MapKept Go.WideMaps
set_option linter.unusedSimpArgs false
set_option linter.unusedVariables false

theorem infoStr : (Tryz.prog.info? 9).map (fun i => (i.zero, i.size, i.bytes)) = some (some (.string ⟨#[]⟩), 1, 16) := by kernel_rfl
set_option maxRecDepth 100000 in
set_option maxHeartbeats 2000000 in
theorem key_3 (g pb mb : Nat) (kd last room ta tb tn : Int) (t : List UInt8) (vi vk : Value) (ks : List (List UInt8))   (w : World) (ht : (mkS t).size ≤ maxLen) (hhb : decide (t ∈ ks) = false)
    (hP : w.heap[pb]? = some (obP kd vi vk last (.map (some mb)) room)) (hM : SetM mb ks w)
    (B : Nat) (hn : ks.length < maxLen) (hn1 : ks.length + 1 ≤ maxLen) (hn2 : (ks.length + 1) * 16 ≤ 140737488355328) (hBl : B ≤ w.heap.size) (hml : mb < w.heap.size) (hpm : pb ≠ mb) (hv : ∀ j, vk.ownBlock = some j → j < w.heap.size ∧ j ≠ g ∧ j ≠ pb ∧ j ≠ mb) (hO : w.ownsRow B 9 1 vk ks.length (kC ks)) (hgl : g < w.heap.size) (hpg : pb ≠ g) (hmg : mb ≠ g) (p x : Int) (P2 : World → Prop)
    (HN : Hid (∀ V, KO g pb mb B kd last room vi vk ks t w V → V.heap[g]? = w.heap[g]? → Calls Tryz.prog 16 #[.pointer (some ⟨g, 0, none⟩)] V fun e w' => e = .returned (.tuple #[.agg #[.int .i64 0, .int .i64 0, .int .i64 0, .string ⟨#[]⟩, .int .i64 0], .iface 45 (.agg #[.int .i64 p, .int .i64 x])]) ∧ V.grownBy w' (some g) ∧ P2 w')) :
    Calls Tryz.prog 64 #[.pointer (some ⟨g, 0, none⟩), .pointer (some ⟨pb, 0, none⟩), .agg #[.int .i64 7, .int .i64 ta, .int .i64 tb, .string (mkS t), .int .i64 tn]] w fun e w' => e = .returned (.tuple #[.agg #[.int .i64 0, .int .i64 0, .int .i64 0, .string ⟨#[]⟩, .int .i64 0], .iface 45 (.agg #[.int .i64 p, .int .i64 x])]) ∧ ∃ V1 w1, KO g pb mb B kd last room vi vk ks t w V1 ∧ V1.grownBy w1 (some g) ∧ P2 w1 ∧ Grw (T2 w) w1 w' := by
  obtain ⟨W0, hW0, hk0, hr0, hb0, hz0⟩ := two_tk w 7 ta tb (mkS t) tn
  have hpl : pb < w.heap.size := (Array.getElem?_eq_some_iff.1 hP).1
  have HW0 := Lib.hid hW0
  have HK0 := Lib.hid hk0
  have HR0 := Lib.hid hr0
  have HB0 := Lib.hid hb0
  have HP0 : Hid (W0.heap[pb]? = some (obP kd vi vk last (.map (some mb)) room)) := (hb0.block _ hpl).trans hP
  have HM0 : Hid (SetM mb ks W0) := hM.keep (hb0.block _ hM.lt)
  have HL0 : Hid (∀ V, SetM mb ks V → (Instr.lookup 126 (.map (some mb)) (.string (mkS t)) true).run Tryz.prog V = .ok (.tuple #[.agg #[], .bool false]) V) := by intro V hV; have h := hV.look ht; rw [hhb] at h; exact h
  have hzz : (w.alloc (obT 7 ta tb (mkS t) tn)).heap.size = w.heap.size + 1 := by simp
  have HO0 : Hid (W0.ownsRow B 9 1 vk ks.length (kC ks)) := hO.kept (row := none) ⟨hb0.os, hb0.tape, hb0.output, hb0.size, fun k hk _ => hb0.block k hk⟩ (by cases hx : vk.ownBlock <;> simp)
  obtain ⟨i0, hi, hz0', hz1, hz2⟩ := info_parts infoStr
  clear hW0 hk0 hr0 hb0 hP hM hhb hO
  go_enter Tryz.func64, Tryz.ntmps64
  go_upto_region 1 with (fail)
  rw [← HW0.out]
  have HKS : Hid (∀ V : World, V.heap[pb]? = some (obP kd vi vk last (.map (some mb)) room) → V.heap[w.heap.size]? = some (obT 7 ta tb (mkS t) tn) → SetM mb ks V → V.cell? ⟨pb, 7, none⟩ = some (.map (some mb)) ∧ V.cell? ⟨w.heap.size, 3, none⟩ = some (.string (mkS t)) ∧ (Instr.lookup 126 (.map (some mb)) (.string (mkS t)) true).run Tryz.prog V = .ok (.tuple #[.agg #[], .bool false]) V) := fun V h1 h2 h3 => ⟨cell_of_row _ _ 7 _ _ _ h1, cell_of_row _ _ 3 _ _ _ h2, HL0.out _ h3⟩
  have hbA : Below W0.heap.size W0 ((W0.alloc (.cells #[] 152)).drew) := ((Below.refl _ _).alloc (Nat.le_refl _) _).drew
  have HPA : Hid (((W0.alloc (.cells #[] 152)).drew).heap[pb]? = some (obP kd vi vk last (.map (some mb)) room)) := (hbA.block _ (by omega)).trans HP0.out
  have HKA : Hid (((W0.alloc (.cells #[] 152)).drew).heap[w.heap.size]? = some (obT 7 ta tb (mkS t) tn)) := (hbA.block _ (by omega)).trans HK0.out
  have HRA : Hid (((W0.alloc (.cells #[] 152)).drew).heap[w.heap.size + 1]? = some (obT 0 0 0 ⟨#[]⟩ 0)) := (hbA.block _ (by omega)).trans HR0.out
  have HMA : Hid (SetM mb ks ((W0.alloc (.cells #[] 152)).drew)) := HM0.out.keep (hbA.block _ HM0.out.lt)
  have HBA : Hid (Below w.heap.size w ((W0.alloc (.cells #[] 152)).drew)) := HB0.out.trans (hbA.mono (by omega))
  have HSA := Lib.hid (HKS.out _ HPA.out HKA.out HMA.out)
  have HSD : Hid (W0.drew.cell? ⟨pb, 7, none⟩ = some (.map (some mb)) ∧ W0.drew.cell? ⟨w.heap.size, 3, none⟩ = some (.string (mkS t)) ∧ (Instr.lookup 126 (.map (some mb)) (.string (mkS t)) true).run Tryz.prog W0.drew = .ok (.tuple #[.agg #[], .bool false]) W0.drew) := HKS.out W0.drew HP0.out HK0.out HM0.out
  have HOA : Hid (((W0.alloc (.cells #[] 152)).drew).ownsRow B 9 1 vk ks.length (kC ks)) := (HO0.out.alloc _).drew
  clear hbA HKS
  go_region_held3 (fun V => V.cell? ⟨pb, 7, none⟩ = some (.map (some mb)) ∧ V.cell? ⟨w.heap.size, 3, none⟩ = some (.string (mkS t)) ∧ (Instr.lookup 126 (.map (some mb)) (.string (mkS t)) true).run Tryz.prog V = .ok (.tuple #[.agg #[], .bool false]) V)
    (first | (with_reducible exact HSD.out) | (with_reducible exact HSA.out))
    (fail)
  all_goals
    have hzA : ((W0.alloc (.cells #[] 152)).drew).heap.size = w.heap.size + 3 := by simp; omega
    clear HSA HSD HP0 HK0 HR0 HM0 HB0 HW0 HL0 HO0
    generalize (W0.alloc (.cells #[] 152)).drew = wa at HPA HKA HRA HMA HBA HOA hzA ⊢
    rename_i hHd
    clear hHd hz0 hzz
    clear W0
    obtain ⟨x0, x1, x2, x3, x4⟩ := cells5 HKA.out
  all_goals
    have hMD : SetM mb ks wa.drew := HMA.out
    obtain ⟨wm, hrun, hSm, hgm, hsm⟩ := hMD.add ht hn
    clear hMD
    have HSm := Lib.hid hSm
    have HGm : Hid (wa.grownBy wm (some mb)) := ⟨hgm.os, hgm.tape, hgm.output, hgm.size, hgm.block⟩
    have HSz : Hid (wm.heap.size = wa.heap.size) := hsm
    have c7 := cell_of_row _ _ 7 _ _ _ HPA.out
    clear hSm hgm hsm
    go_upto_region 4 with (fail)
    go_region
    all_goals go_upto_region 5 with (fail)
    clear hrun c7 x0 x1 x2 x3 x4
    have hwm : wm.heap.size = w.heap.size + 3 := by have := HSz.out; omega
    have HPm : Hid (wm.heap[pb]? = some (obP kd vi vk last (.map (some mb)) room)) := (HGm.out.block pb (by omega) (fun e => hpm (by injection e))).trans HPA.out
    have HKm : Hid (wm.heap[w.heap.size]? = some (obT 7 ta tb (mkS t) tn)) := (HGm.out.block w.heap.size (by omega) (fun e => by injection e with e; omega)).trans HKA.out
    have HRm : Hid (wm.heap[w.heap.size + 1]? = some (obT 0 0 0 ⟨#[]⟩ 0)) := (HGm.out.block (w.heap.size + 1) (by omega) (fun e => by injection e with e; omega)).trans HRA.out
    have HOm : Hid (wm.ownsRow B 9 1 vk ks.length (kC ks)) := HOA.out.kept HGm.out (by cases hx : vk.ownBlock with | none => exact .inl rfl | some j => exact .inr (fun e => (hv _ hx).2.2.2 (by injection e)))
    have m3 := cell_of_row _ _ 3 _ _ _ HKm.out
    have m5 := cell_of_row _ _ 5 _ _ _ HPm.out
    obtain ⟨WB, hWB⟩ : ∃ WB, WB = ((wm.alloc (.cells #[.string (mkS t)] 9)).drew) := ⟨_, rfl⟩
    have HBB : Hid (Below wm.heap.size wm WB) := by rw [hWB]; exact Lib.hid (((Below.refl _ _).alloc (Nat.le_refl _) _).drew)
    have HOB : Hid (WB.ownsRow B 9 1 vk ks.length (kC ks)) := by rw [hWB]; exact Lib.hid ((HOm.out.alloc _).drew)
    have HNB : Hid (WB.heap[wm.heap.size]? = some (.cells #[.string (mkS t)] 9 (0, 0))) := by rw [hWB]; exact Lib.hid (heap_alloc_new wm (.cells #[.string (mkS t)] 9))
    have HWB := Lib.hid hWB
    have hlB : B ≤ WB.heap.size := by have := HBB.out.size; omega
    have n5 := World.new_ne wm _ m5
    have n3 := World.new_ne wm _ m3
    have l5 : pb < wm.heap.size := by omega
    clear hWB hwm
    go_region_law (rw [← HWB.out]; refine step_append_lies _ rfl _ _ 23 rfl B 9 i0 _ 1 16 Tryz.underlying23 hi hz0' hz1 hz2 rfl (by decide) _ _ _ rfl HOB.out ⟨wm.heap.size, 0, none⟩ 1 1 [.string (mkS t)] rfl rfl (World.news_of_block HNB.out) (by simp [Value.oneCell']) (by decide) hn1 hn2 hlB _ rfl ?_; intro g1 c1 V hown hgrow hat hlt; obtain ⟨hVP, hKO, hOld, hOld2⟩ := KO.mk (g := g) HBA.out hzA HPA.out hpl hml hpm HSm.out HGm.out HSz.out HBB.out (fun j e => ⟨(hv j e).1, (hv j e).2.2.1, (hv j e).2.2.2⟩) hown hgrow hat hlt; have HKO := Lib.hid hKO; have HT5 := Lib.hid ((hOld w.heap.size (by omega) (by omega)).trans HKA.out); have HT6 := Lib.hid ((hOld (w.heap.size + 1) (by omega) (by omega)).trans HRA.out); have d5 := cell_of_row _ _ 5 _ _ _ hVP; have f5 := frz hVP 5; have HGO := Lib.hid (hOld2 g hgl (Ne.symm hpg) (Ne.symm hmg) (fun e => (hv g e).2.1 rfl)); clear hVP hKO hOld hOld2 hown hgrow hat hlt)
    all_goals
      clear d5 f5 n5 n3 m3 m5
      generalize V.setCell ⟨pb, 5, none⟩ (.slice (some ⟨g1, 0, none⟩) (ks.length + 1) c1) = V1 at HKO HT5 HT6 HGO ⊢
      go_wp2_with fail
      (with_reducible refine (HN.out V1 HKO.out HGO.out).mono ?_)
      rintro e w2 ⟨rfl, hg2, hp2⟩
      have HP2 := Lib.hid hp2
      have HG2 : Hid (V1.grownBy w2 (some g)) := hg2
      have HU5 : Hid (w2.heap[w.heap.size]? = some (obT 7 ta tb (mkS t) tn)) := (hg2.block _ (Array.getElem?_eq_some_iff.1 HT5.out).1 (fun e => by injection e with e; omega)).trans HT5.out
      have HU6 : Hid (w2.heap[w.heap.size + 1]? = some (obT 0 0 0 ⟨#[]⟩ 0)) := (hg2.block _ (Array.getElem?_eq_some_iff.1 HT6.out).1 (fun e => by injection e with e; omega)).trans HT6.out
      clear hg2 hp2 HT5 HT6 l5 hlB
      obtain ⟨y0, y1, y2, y3, y4⟩ := cells5 HU5.out
      have q0 := frz HU5.out 0
      have q1 := frz HU5.out 1
      have q2 := frz HU5.out 2
      have q3 := frz HU5.out 3
      have q4 := frz HU5.out 4
      have nF := neF p x
      go_upto_region 7 with (fail)
      obtain ⟨w3, hw3⟩ : ∃ w3, w3 = ((((((w2.setCell ⟨w.heap.size, 0, none⟩ (.int .i64 0)).setCell ⟨w.heap.size, 1, none⟩ (.int .i64 0)).setCell ⟨w.heap.size, 2, none⟩ (.int .i64 0)).setCell ⟨w.heap.size, 3, none⟩ (.string ⟨#[]⟩)).setCell ⟨w.heap.size, 4, none⟩ (.int .i64 0))) := ⟨_, rfl⟩
      have HY3 : Hid (w3.heap[w.heap.size]? = some (.cells #[.int .i64 0, .int .i64 0, .int .i64 0, .string ⟨#[]⟩, .int .i64 0] 60 (0, 0))) := by rw [hw3]; exact set5 HU5.out _ _ _ _ _
      have HR3 : Hid (Grw (T2 w) w2 w3) := by rw [hw3]; exact (gr_set5 w2 w.heap.size (.int .i64 0) (.int .i64 0) (.int .i64 0) (.string ⟨#[]⟩) (.int .i64 0)).mono (fun j _ h => .inl h)
      have HT3 : Hid (w3.heap[w.heap.size + 1]? = some (obT 0 0 0 ⟨#[]⟩ 0)) := by
        rw [hw3]
        exact Lib.hid (((gr_set5 w2 w.heap.size (.int .i64 0) (.int .i64 0) (.int .i64 0) (.string ⟨#[]⟩) (.int .i64 0)).block (Array.getElem?_eq_some_iff.1 HU6.out).1 (by omega)).trans HU6.out)
      rw [← hw3]
      clear hw3 y0 y1 y2 y3 y4 q0 q1 q2 q3 q4
      obtain ⟨y0, y1, y2, y3, y4⟩ := cells5 HY3.out
      obtain ⟨u0, u1, u2, u3, u4⟩ := cells5 HT3.out
      have r0 := frz HT3.out 0
      have r1 := frz HT3.out 1
      have r2 := frz HT3.out 2
      have r3 := frz HT3.out 3
      have r4 := frz HT3.out 4
      have HH := Lib.hid (set5 HT3.out (.int .i64 0) (.int .i64 0) (.int .i64 0) (.string ⟨#[]⟩) (.int .i64 0))
      have HZ : Hid (Grw (T2 w) w3 _) := (gr_set5 w3 (w.heap.size + 1) (.int .i64 0) (.int .i64 0) (.int .i64 0) (.string ⟨#[]⟩) (.int .i64 0)).mono (fun j _ h => .inr h)
      go_wp2
      obtain ⟨d0, d1, d2, d3, d4⟩ := cells5 HH.out
      clear u0 u1 u2 u3 u4 r0 r1 r2 r3 r4
      (with_reducible refine bodyPost_ret (v := .tuple #[.agg #[.int .i64 0, .int .i64 0, .int .i64 0, .string ⟨#[]⟩, .int .i64 0], .iface 45 (.agg #[.int .i64 p, .int .i64 x])]) (by simp [results, Tryz.results64, go_sem, d0, d1, d2, d3, d4]) rfl ⟨rfl, V1, w2, HKO.out, HG2.out, HP2.out, HR3.out.trans HZ.out (fun _ _ h => h)⟩)
set_option maxRecDepth 100000 in
set_option maxHeartbeats 2000000 in
theorem key_4 (g pb mb : Nat) (kd last room ta tb tn : Int) (t : List UInt8) (vi vk : Value) (ks : List (List UInt8))   (w : World) (ht : (mkS t).size ≤ maxLen) (hhb : decide (t ∈ ks) = false)
    (hP : w.heap[pb]? = some (obP kd vi vk last (.map (some mb)) room)) (hM : SetM mb ks w)
    (B : Nat) (hn : ks.length < maxLen) (hn1 : ks.length + 1 ≤ maxLen) (hn2 : (ks.length + 1) * 16 ≤ 140737488355328) (hBl : B ≤ w.heap.size) (hml : mb < w.heap.size) (hpm : pb ≠ mb) (hv : ∀ j, vk.ownBlock = some j → j < w.heap.size ∧ j ≠ g ∧ j ≠ pb ∧ j ≠ mb) (hO : w.ownsRow B 9 1 vk ks.length (kC ks)) (hgl : g < w.heap.size) (hpg : pb ≠ g) (hmg : mb ≠ g) (k2 ta2 tb2 tn2 : Int) (tx2 : ByteArray) (hk5 : k2 ≠ 5) (P2 : World → Prop)
    (HN : Hid (∀ V, KO g pb mb B kd last room vi vk ks t w V → V.heap[g]? = w.heap[g]? → Calls Tryz.prog 16 #[.pointer (some ⟨g, 0, none⟩)] V fun e w' => e = .returned (.tuple #[.agg #[.int .i64 k2, .int .i64 ta2, .int .i64 tb2, .string tx2, .int .i64 tn2], .nilIface]) ∧ V.grownBy w' (some g) ∧ P2 w')) :
    Calls Tryz.prog 64 #[.pointer (some ⟨g, 0, none⟩), .pointer (some ⟨pb, 0, none⟩), .agg #[.int .i64 7, .int .i64 ta, .int .i64 tb, .string (mkS t), .int .i64 tn]] w fun e w' => e = .returned (.tuple #[.agg #[.int .i64 0, .int .i64 0, .int .i64 0, .string ⟨#[]⟩, .int .i64 0], .iface 45 (.agg #[.int .i64 ta2, .int .i64 3])]) ∧ ∃ V1 w1, KO g pb mb B kd last room vi vk ks t w V1 ∧ V1.grownBy w1 (some g) ∧ P2 w1 ∧ Grw (T2 w) w1 w' := by
  obtain ⟨W0, hW0, hk0, hr0, hb0, hz0⟩ := two_tk w 7 ta tb (mkS t) tn
  have hpl : pb < w.heap.size := (Array.getElem?_eq_some_iff.1 hP).1
  have HW0 := Lib.hid hW0
  have HK0 := Lib.hid hk0
  have HR0 := Lib.hid hr0
  have HB0 := Lib.hid hb0
  have HP0 : Hid (W0.heap[pb]? = some (obP kd vi vk last (.map (some mb)) room)) := (hb0.block _ hpl).trans hP
  have HM0 : Hid (SetM mb ks W0) := hM.keep (hb0.block _ hM.lt)
  have HL0 : Hid (∀ V, SetM mb ks V → (Instr.lookup 126 (.map (some mb)) (.string (mkS t)) true).run Tryz.prog V = .ok (.tuple #[.agg #[], .bool false]) V) := by intro V hV; have h := hV.look ht; rw [hhb] at h; exact h
  have hzz : (w.alloc (obT 7 ta tb (mkS t) tn)).heap.size = w.heap.size + 1 := by simp
  have HO0 : Hid (W0.ownsRow B 9 1 vk ks.length (kC ks)) := hO.kept (row := none) ⟨hb0.os, hb0.tape, hb0.output, hb0.size, fun k hk _ => hb0.block k hk⟩ (by cases hx : vk.ownBlock <;> simp)
  obtain ⟨i0, hi, hz0', hz1, hz2⟩ := info_parts infoStr
  clear hW0 hk0 hr0 hb0 hP hM hhb hO
  go_enter Tryz.func64, Tryz.ntmps64
  go_upto_region 1 with (fail)
  rw [← HW0.out]
  have HKS : Hid (∀ V : World, V.heap[pb]? = some (obP kd vi vk last (.map (some mb)) room) → V.heap[w.heap.size]? = some (obT 7 ta tb (mkS t) tn) → SetM mb ks V → V.cell? ⟨pb, 7, none⟩ = some (.map (some mb)) ∧ V.cell? ⟨w.heap.size, 3, none⟩ = some (.string (mkS t)) ∧ (Instr.lookup 126 (.map (some mb)) (.string (mkS t)) true).run Tryz.prog V = .ok (.tuple #[.agg #[], .bool false]) V) := fun V h1 h2 h3 => ⟨cell_of_row _ _ 7 _ _ _ h1, cell_of_row _ _ 3 _ _ _ h2, HL0.out _ h3⟩
  have hbA : Below W0.heap.size W0 ((W0.alloc (.cells #[] 152)).drew) := ((Below.refl _ _).alloc (Nat.le_refl _) _).drew
  have HPA : Hid (((W0.alloc (.cells #[] 152)).drew).heap[pb]? = some (obP kd vi vk last (.map (some mb)) room)) := (hbA.block _ (by omega)).trans HP0.out
  have HKA : Hid (((W0.alloc (.cells #[] 152)).drew).heap[w.heap.size]? = some (obT 7 ta tb (mkS t) tn)) := (hbA.block _ (by omega)).trans HK0.out
  have HRA : Hid (((W0.alloc (.cells #[] 152)).drew).heap[w.heap.size + 1]? = some (obT 0 0 0 ⟨#[]⟩ 0)) := (hbA.block _ (by omega)).trans HR0.out
  have HMA : Hid (SetM mb ks ((W0.alloc (.cells #[] 152)).drew)) := HM0.out.keep (hbA.block _ HM0.out.lt)
  have HBA : Hid (Below w.heap.size w ((W0.alloc (.cells #[] 152)).drew)) := HB0.out.trans (hbA.mono (by omega))
  have HSA := Lib.hid (HKS.out _ HPA.out HKA.out HMA.out)
  have HSD : Hid (W0.drew.cell? ⟨pb, 7, none⟩ = some (.map (some mb)) ∧ W0.drew.cell? ⟨w.heap.size, 3, none⟩ = some (.string (mkS t)) ∧ (Instr.lookup 126 (.map (some mb)) (.string (mkS t)) true).run Tryz.prog W0.drew = .ok (.tuple #[.agg #[], .bool false]) W0.drew) := HKS.out W0.drew HP0.out HK0.out HM0.out
  have HOA : Hid (((W0.alloc (.cells #[] 152)).drew).ownsRow B 9 1 vk ks.length (kC ks)) := (HO0.out.alloc _).drew
  clear hbA HKS
  go_region_held3 (fun V => V.cell? ⟨pb, 7, none⟩ = some (.map (some mb)) ∧ V.cell? ⟨w.heap.size, 3, none⟩ = some (.string (mkS t)) ∧ (Instr.lookup 126 (.map (some mb)) (.string (mkS t)) true).run Tryz.prog V = .ok (.tuple #[.agg #[], .bool false]) V)
    (first | (with_reducible exact HSD.out) | (with_reducible exact HSA.out))
    (fail)
  all_goals
    have hzA : ((W0.alloc (.cells #[] 152)).drew).heap.size = w.heap.size + 3 := by simp; omega
    clear HSA HSD HP0 HK0 HR0 HM0 HB0 HW0 HL0 HO0
    generalize (W0.alloc (.cells #[] 152)).drew = wa at HPA HKA HRA HMA HBA HOA hzA ⊢
    rename_i hHd
    clear hHd hz0 hzz
    clear W0
    obtain ⟨x0, x1, x2, x3, x4⟩ := cells5 HKA.out
  all_goals
    have hMD : SetM mb ks wa.drew := HMA.out
    obtain ⟨wm, hrun, hSm, hgm, hsm⟩ := hMD.add ht hn
    clear hMD
    have HSm := Lib.hid hSm
    have HGm : Hid (wa.grownBy wm (some mb)) := ⟨hgm.os, hgm.tape, hgm.output, hgm.size, hgm.block⟩
    have HSz : Hid (wm.heap.size = wa.heap.size) := hsm
    have c7 := cell_of_row _ _ 7 _ _ _ HPA.out
    clear hSm hgm hsm
    go_upto_region 4 with (fail)
    go_region
    all_goals go_upto_region 5 with (fail)
    clear hrun c7 x0 x1 x2 x3 x4
    have hwm : wm.heap.size = w.heap.size + 3 := by have := HSz.out; omega
    have HPm : Hid (wm.heap[pb]? = some (obP kd vi vk last (.map (some mb)) room)) := (HGm.out.block pb (by omega) (fun e => hpm (by injection e))).trans HPA.out
    have HKm : Hid (wm.heap[w.heap.size]? = some (obT 7 ta tb (mkS t) tn)) := (HGm.out.block w.heap.size (by omega) (fun e => by injection e with e; omega)).trans HKA.out
    have HRm : Hid (wm.heap[w.heap.size + 1]? = some (obT 0 0 0 ⟨#[]⟩ 0)) := (HGm.out.block (w.heap.size + 1) (by omega) (fun e => by injection e with e; omega)).trans HRA.out
    have HOm : Hid (wm.ownsRow B 9 1 vk ks.length (kC ks)) := HOA.out.kept HGm.out (by cases hx : vk.ownBlock with | none => exact .inl rfl | some j => exact .inr (fun e => (hv _ hx).2.2.2 (by injection e)))
    have m3 := cell_of_row _ _ 3 _ _ _ HKm.out
    have m5 := cell_of_row _ _ 5 _ _ _ HPm.out
    obtain ⟨WB, hWB⟩ : ∃ WB, WB = ((wm.alloc (.cells #[.string (mkS t)] 9)).drew) := ⟨_, rfl⟩
    have HBB : Hid (Below wm.heap.size wm WB) := by rw [hWB]; exact Lib.hid (((Below.refl _ _).alloc (Nat.le_refl _) _).drew)
    have HOB : Hid (WB.ownsRow B 9 1 vk ks.length (kC ks)) := by rw [hWB]; exact Lib.hid ((HOm.out.alloc _).drew)
    have HNB : Hid (WB.heap[wm.heap.size]? = some (.cells #[.string (mkS t)] 9 (0, 0))) := by rw [hWB]; exact Lib.hid (heap_alloc_new wm (.cells #[.string (mkS t)] 9))
    have HWB := Lib.hid hWB
    have hlB : B ≤ WB.heap.size := by have := HBB.out.size; omega
    have n5 := World.new_ne wm _ m5
    have n3 := World.new_ne wm _ m3
    have l5 : pb < wm.heap.size := by omega
    clear hWB hwm
    go_region_law (rw [← HWB.out]; refine step_append_lies _ rfl _ _ 23 rfl B 9 i0 _ 1 16 Tryz.underlying23 hi hz0' hz1 hz2 rfl (by decide) _ _ _ rfl HOB.out ⟨wm.heap.size, 0, none⟩ 1 1 [.string (mkS t)] rfl rfl (World.news_of_block HNB.out) (by simp [Value.oneCell']) (by decide) hn1 hn2 hlB _ rfl ?_; intro g1 c1 V hown hgrow hat hlt; obtain ⟨hVP, hKO, hOld, hOld2⟩ := KO.mk (g := g) HBA.out hzA HPA.out hpl hml hpm HSm.out HGm.out HSz.out HBB.out (fun j e => ⟨(hv j e).1, (hv j e).2.2.1, (hv j e).2.2.2⟩) hown hgrow hat hlt; have HKO := Lib.hid hKO; have HT5 := Lib.hid ((hOld w.heap.size (by omega) (by omega)).trans HKA.out); have HT6 := Lib.hid ((hOld (w.heap.size + 1) (by omega) (by omega)).trans HRA.out); have d5 := cell_of_row _ _ 5 _ _ _ hVP; have f5 := frz hVP 5; have HGO := Lib.hid (hOld2 g hgl (Ne.symm hpg) (Ne.symm hmg) (fun e => (hv g e).2.1 rfl)); clear hVP hKO hOld hOld2 hown hgrow hat hlt)
    all_goals
      clear d5 f5 n5 n3 m3 m5
      generalize V.setCell ⟨pb, 5, none⟩ (.slice (some ⟨g1, 0, none⟩) (ks.length + 1) c1) = V1 at HKO HT5 HT6 HGO ⊢
      go_wp2_with fail
      (with_reducible refine (HN.out V1 HKO.out HGO.out).mono ?_)
      rintro e w2 ⟨rfl, hg2, hp2⟩
      have HP2 := Lib.hid hp2
      have HG2 : Hid (V1.grownBy w2 (some g)) := hg2
      have HU5 : Hid (w2.heap[w.heap.size]? = some (obT 7 ta tb (mkS t) tn)) := (hg2.block _ (Array.getElem?_eq_some_iff.1 HT5.out).1 (fun e => by injection e with e; omega)).trans HT5.out
      have HU6 : Hid (w2.heap[w.heap.size + 1]? = some (obT 0 0 0 ⟨#[]⟩ 0)) := (hg2.block _ (Array.getElem?_eq_some_iff.1 HT6.out).1 (fun e => by injection e with e; omega)).trans HT6.out
      clear hg2 hp2 HT5 HT6 l5 hlB
      obtain ⟨y0, y1, y2, y3, y4⟩ := cells5 HU5.out
      have q0 := frz HU5.out 0
      have q1 := frz HU5.out 1
      have q2 := frz HU5.out 2
      have q3 := frz HU5.out 3
      have q4 := frz HU5.out 4
      have nN := neN
      go_upto_region 7 with (fail)
      obtain ⟨w3, hw3⟩ : ∃ w3, w3 = ((((((w2.setCell ⟨w.heap.size, 0, none⟩ (.int .i64 k2)).setCell ⟨w.heap.size, 1, none⟩ (.int .i64 ta2)).setCell ⟨w.heap.size, 2, none⟩ (.int .i64 tb2)).setCell ⟨w.heap.size, 3, none⟩ (.string tx2)).setCell ⟨w.heap.size, 4, none⟩ (.int .i64 tn2))) := ⟨_, rfl⟩
      have HY3 : Hid (w3.heap[w.heap.size]? = some (.cells #[.int .i64 k2, .int .i64 ta2, .int .i64 tb2, .string tx2, .int .i64 tn2] 60 (0, 0))) := by rw [hw3]; exact set5 HU5.out _ _ _ _ _
      have HR3 : Hid (Grw (T2 w) w2 w3) := by rw [hw3]; exact (gr_set5 w2 w.heap.size (.int .i64 k2) (.int .i64 ta2) (.int .i64 tb2) (.string tx2) (.int .i64 tn2)).mono (fun j _ h => .inl h)
      have HT3 : Hid (w3.heap[w.heap.size + 1]? = some (obT 0 0 0 ⟨#[]⟩ 0)) := by
        rw [hw3]
        exact Lib.hid (((gr_set5 w2 w.heap.size (.int .i64 k2) (.int .i64 ta2) (.int .i64 tb2) (.string tx2) (.int .i64 tn2)).block (Array.getElem?_eq_some_iff.1 HU6.out).1 (by omega)).trans HU6.out)
      rw [← hw3]
      clear hw3 y0 y1 y2 y3 y4 q0 q1 q2 q3 q4
      obtain ⟨y0, y1, y2, y3, y4⟩ := cells5 HY3.out
      go_wp2_with fail
      (with_reducible refine (unfit_c (k2) ta2 tb2 tn2 tx2 w3).mono ?_)
      rintro e w4 ⟨rfl, hb4⟩
      clear y0 y1 y2 y3 y4
      have HR4 : Hid (Grw (T2 w) w3 w4) := Grw.of_below hb4 (fun k h1 h2 => by omega)
      have HT4 : Hid (w4.heap[w.heap.size + 1]? = some (obT 0 0 0 ⟨#[]⟩ 0)) := (hb4.block _ (Array.getElem?_eq_some_iff.1 HT3.out).1).trans HT3.out
      clear hb4
      obtain ⟨u0, u1, u2, u3, u4⟩ := cells5 HT4.out
      have r0 := frz HT4.out 0
      have r1 := frz HT4.out 1
      have r2 := frz HT4.out 2
      have r3 := frz HT4.out 3
      have r4 := frz HT4.out 4
      have HH := Lib.hid (set5 HT4.out (.int .i64 0) (.int .i64 0) (.int .i64 0) (.string ⟨#[]⟩) (.int .i64 0))
      have HZ : Hid (Grw (T2 w) w4 _) := (gr_set5 w4 (w.heap.size + 1) (.int .i64 0) (.int .i64 0) (.int .i64 0) (.string ⟨#[]⟩) (.int .i64 0)).mono (fun j _ h => .inr h)
      go_wp2
      obtain ⟨d0, d1, d2, d3, d4⟩ := cells5 HH.out
      clear u0 u1 u2 u3 u4 r0 r1 r2 r3 r4
      (with_reducible refine bodyPost_ret (v := .tuple #[.agg #[.int .i64 0, .int .i64 0, .int .i64 0, .string ⟨#[]⟩, .int .i64 0], .iface 45 (.agg #[.int .i64 ta2, .int .i64 3])]) (by simp [results, Tryz.results64, go_sem, d0, d1, d2, d3, d4]) rfl ⟨rfl, V1, w2, HKO.out, HG2.out, HP2.out, (HR3.out.trans HR4.out (fun _ _ h => h)).trans HZ.out (fun _ _ h => h)⟩)
set_option maxRecDepth 100000 in
set_option maxHeartbeats 2000000 in
theorem key_5 (g pb mb : Nat) (kd last room ta tb tn : Int) (t : List UInt8) (vi vk : Value) (ks : List (List UInt8))   (w : World) (ht : (mkS t).size ≤ maxLen) (hhb : decide (t ∈ ks) = false)
    (hP : w.heap[pb]? = some (obP kd vi vk last (.map (some mb)) room)) (hM : SetM mb ks w)
    (B : Nat) (hn : ks.length < maxLen) (hn1 : ks.length + 1 ≤ maxLen) (hn2 : (ks.length + 1) * 16 ≤ 140737488355328) (hBl : B ≤ w.heap.size) (hml : mb < w.heap.size) (hpm : pb ≠ mb) (hv : ∀ j, vk.ownBlock = some j → j < w.heap.size ∧ j ≠ g ∧ j ≠ pb ∧ j ≠ mb) (hO : w.ownsRow B 9 1 vk ks.length (kC ks)) (hgl : g < w.heap.size) (hpg : pb ≠ g) (hmg : mb ≠ g) (ta2 tb2 tn2 k3 ta3 tb3 tn3 : Int) (tx2 tx3 : ByteArray) (er3 : Value) (P2 : World → Prop)
    (HN : Hid (∀ V, KO g pb mb B kd last room vi vk ks t w V → V.heap[g]? = w.heap[g]? → Calls Tryz.prog 16 #[.pointer (some ⟨g, 0, none⟩)] V fun e w' => e = .returned (.tuple #[.agg #[.int .i64 5, .int .i64 ta2, .int .i64 tb2, .string tx2, .int .i64 tn2], .nilIface]) ∧ V.grownBy w' (some g) ∧ P2 w')) (P3 : World → Prop) (HQ : Hid (∀ V1 w1 u1, KO g pb mb B kd last room vi vk ks t w V1 → V1.grownBy w1 (some g) → P2 w1 → Grw (T2 w) w1 u1 → Calls Tryz.prog 16 #[.pointer (some ⟨g, 0, none⟩)] u1 fun e w' => e = .returned (.tuple #[.agg #[.int .i64 k3, .int .i64 ta3, .int .i64 tb3, .string tx3, .int .i64 tn3], er3]) ∧ u1.grownBy w' (some g) ∧ P3 w')) :
    Calls Tryz.prog 64 #[.pointer (some ⟨g, 0, none⟩), .pointer (some ⟨pb, 0, none⟩), .agg #[.int .i64 7, .int .i64 ta, .int .i64 tb, .string (mkS t), .int .i64 tn]] w fun e w' => e = .returned (.tuple #[.agg #[.int .i64 k3, .int .i64 ta3, .int .i64 tb3, .string tx3, .int .i64 tn3], er3]) ∧ ∃ V1 w1 u1 w2, KO g pb mb B kd last room vi vk ks t w V1 ∧ V1.grownBy w1 (some g) ∧ P2 w1 ∧ Grw (T2 w) w1 u1 ∧ u1.grownBy w2 (some g) ∧ P3 w2 ∧ Grw (T2 w) w2 w' := by
  obtain ⟨W0, hW0, hk0, hr0, hb0, hz0⟩ := two_tk w 7 ta tb (mkS t) tn
  have hpl : pb < w.heap.size := (Array.getElem?_eq_some_iff.1 hP).1
  have HW0 := Lib.hid hW0
  have HK0 := Lib.hid hk0
  have HR0 := Lib.hid hr0
  have HB0 := Lib.hid hb0
  have HP0 : Hid (W0.heap[pb]? = some (obP kd vi vk last (.map (some mb)) room)) := (hb0.block _ hpl).trans hP
  have HM0 : Hid (SetM mb ks W0) := hM.keep (hb0.block _ hM.lt)
  have HL0 : Hid (∀ V, SetM mb ks V → (Instr.lookup 126 (.map (some mb)) (.string (mkS t)) true).run Tryz.prog V = .ok (.tuple #[.agg #[], .bool false]) V) := by intro V hV; have h := hV.look ht; rw [hhb] at h; exact h
  have hzz : (w.alloc (obT 7 ta tb (mkS t) tn)).heap.size = w.heap.size + 1 := by simp
  have HO0 : Hid (W0.ownsRow B 9 1 vk ks.length (kC ks)) := hO.kept (row := none) ⟨hb0.os, hb0.tape, hb0.output, hb0.size, fun k hk _ => hb0.block k hk⟩ (by cases hx : vk.ownBlock <;> simp)
  obtain ⟨i0, hi, hz0', hz1, hz2⟩ := info_parts infoStr
  clear hW0 hk0 hr0 hb0 hP hM hhb hO
  go_enter Tryz.func64, Tryz.ntmps64
  go_upto_region 1 with (fail)
  rw [← HW0.out]
  have HKS : Hid (∀ V : World, V.heap[pb]? = some (obP kd vi vk last (.map (some mb)) room) → V.heap[w.heap.size]? = some (obT 7 ta tb (mkS t) tn) → SetM mb ks V → V.cell? ⟨pb, 7, none⟩ = some (.map (some mb)) ∧ V.cell? ⟨w.heap.size, 3, none⟩ = some (.string (mkS t)) ∧ (Instr.lookup 126 (.map (some mb)) (.string (mkS t)) true).run Tryz.prog V = .ok (.tuple #[.agg #[], .bool false]) V) := fun V h1 h2 h3 => ⟨cell_of_row _ _ 7 _ _ _ h1, cell_of_row _ _ 3 _ _ _ h2, HL0.out _ h3⟩
  have hbA : Below W0.heap.size W0 ((W0.alloc (.cells #[] 152)).drew) := ((Below.refl _ _).alloc (Nat.le_refl _) _).drew
  have HPA : Hid (((W0.alloc (.cells #[] 152)).drew).heap[pb]? = some (obP kd vi vk last (.map (some mb)) room)) := (hbA.block _ (by omega)).trans HP0.out
  have HKA : Hid (((W0.alloc (.cells #[] 152)).drew).heap[w.heap.size]? = some (obT 7 ta tb (mkS t) tn)) := (hbA.block _ (by omega)).trans HK0.out
  have HRA : Hid (((W0.alloc (.cells #[] 152)).drew).heap[w.heap.size + 1]? = some (obT 0 0 0 ⟨#[]⟩ 0)) := (hbA.block _ (by omega)).trans HR0.out
  have HMA : Hid (SetM mb ks ((W0.alloc (.cells #[] 152)).drew)) := HM0.out.keep (hbA.block _ HM0.out.lt)
  have HBA : Hid (Below w.heap.size w ((W0.alloc (.cells #[] 152)).drew)) := HB0.out.trans (hbA.mono (by omega))
  have HSA := Lib.hid (HKS.out _ HPA.out HKA.out HMA.out)
  have HSD : Hid (W0.drew.cell? ⟨pb, 7, none⟩ = some (.map (some mb)) ∧ W0.drew.cell? ⟨w.heap.size, 3, none⟩ = some (.string (mkS t)) ∧ (Instr.lookup 126 (.map (some mb)) (.string (mkS t)) true).run Tryz.prog W0.drew = .ok (.tuple #[.agg #[], .bool false]) W0.drew) := HKS.out W0.drew HP0.out HK0.out HM0.out
  have HOA : Hid (((W0.alloc (.cells #[] 152)).drew).ownsRow B 9 1 vk ks.length (kC ks)) := (HO0.out.alloc _).drew
  clear hbA HKS
  go_region_held3 (fun V => V.cell? ⟨pb, 7, none⟩ = some (.map (some mb)) ∧ V.cell? ⟨w.heap.size, 3, none⟩ = some (.string (mkS t)) ∧ (Instr.lookup 126 (.map (some mb)) (.string (mkS t)) true).run Tryz.prog V = .ok (.tuple #[.agg #[], .bool false]) V)
    (first | (with_reducible exact HSD.out) | (with_reducible exact HSA.out))
    (fail)
  all_goals
    have hzA : ((W0.alloc (.cells #[] 152)).drew).heap.size = w.heap.size + 3 := by simp; omega
    clear HSA HSD HP0 HK0 HR0 HM0 HB0 HW0 HL0 HO0
    generalize (W0.alloc (.cells #[] 152)).drew = wa at HPA HKA HRA HMA HBA HOA hzA ⊢
    rename_i hHd
    clear hHd hz0 hzz
    clear W0
    obtain ⟨x0, x1, x2, x3, x4⟩ := cells5 HKA.out
  all_goals
    have hMD : SetM mb ks wa.drew := HMA.out
    obtain ⟨wm, hrun, hSm, hgm, hsm⟩ := hMD.add ht hn
    clear hMD
    have HSm := Lib.hid hSm
    have HGm : Hid (wa.grownBy wm (some mb)) := ⟨hgm.os, hgm.tape, hgm.output, hgm.size, hgm.block⟩
    have HSz : Hid (wm.heap.size = wa.heap.size) := hsm
    have c7 := cell_of_row _ _ 7 _ _ _ HPA.out
    clear hSm hgm hsm
    go_upto_region 4 with (fail)
    go_region
    all_goals go_upto_region 5 with (fail)
    clear hrun c7 x0 x1 x2 x3 x4
    have hwm : wm.heap.size = w.heap.size + 3 := by have := HSz.out; omega
    have HPm : Hid (wm.heap[pb]? = some (obP kd vi vk last (.map (some mb)) room)) := (HGm.out.block pb (by omega) (fun e => hpm (by injection e))).trans HPA.out
    have HKm : Hid (wm.heap[w.heap.size]? = some (obT 7 ta tb (mkS t) tn)) := (HGm.out.block w.heap.size (by omega) (fun e => by injection e with e; omega)).trans HKA.out
    have HRm : Hid (wm.heap[w.heap.size + 1]? = some (obT 0 0 0 ⟨#[]⟩ 0)) := (HGm.out.block (w.heap.size + 1) (by omega) (fun e => by injection e with e; omega)).trans HRA.out
    have HOm : Hid (wm.ownsRow B 9 1 vk ks.length (kC ks)) := HOA.out.kept HGm.out (by cases hx : vk.ownBlock with | none => exact .inl rfl | some j => exact .inr (fun e => (hv _ hx).2.2.2 (by injection e)))
    have m3 := cell_of_row _ _ 3 _ _ _ HKm.out
    have m5 := cell_of_row _ _ 5 _ _ _ HPm.out
    obtain ⟨WB, hWB⟩ : ∃ WB, WB = ((wm.alloc (.cells #[.string (mkS t)] 9)).drew) := ⟨_, rfl⟩
    have HBB : Hid (Below wm.heap.size wm WB) := by rw [hWB]; exact Lib.hid (((Below.refl _ _).alloc (Nat.le_refl _) _).drew)
    have HOB : Hid (WB.ownsRow B 9 1 vk ks.length (kC ks)) := by rw [hWB]; exact Lib.hid ((HOm.out.alloc _).drew)
    have HNB : Hid (WB.heap[wm.heap.size]? = some (.cells #[.string (mkS t)] 9 (0, 0))) := by rw [hWB]; exact Lib.hid (heap_alloc_new wm (.cells #[.string (mkS t)] 9))
    have HWB := Lib.hid hWB
    have hlB : B ≤ WB.heap.size := by have := HBB.out.size; omega
    have n5 := World.new_ne wm _ m5
    have n3 := World.new_ne wm _ m3
    have l5 : pb < wm.heap.size := by omega
    clear hWB hwm
    go_region_law (rw [← HWB.out]; refine step_append_lies _ rfl _ _ 23 rfl B 9 i0 _ 1 16 Tryz.underlying23 hi hz0' hz1 hz2 rfl (by decide) _ _ _ rfl HOB.out ⟨wm.heap.size, 0, none⟩ 1 1 [.string (mkS t)] rfl rfl (World.news_of_block HNB.out) (by simp [Value.oneCell']) (by decide) hn1 hn2 hlB _ rfl ?_; intro g1 c1 V hown hgrow hat hlt; obtain ⟨hVP, hKO, hOld, hOld2⟩ := KO.mk (g := g) HBA.out hzA HPA.out hpl hml hpm HSm.out HGm.out HSz.out HBB.out (fun j e => ⟨(hv j e).1, (hv j e).2.2.1, (hv j e).2.2.2⟩) hown hgrow hat hlt; have HKO := Lib.hid hKO; have HT5 := Lib.hid ((hOld w.heap.size (by omega) (by omega)).trans HKA.out); have HT6 := Lib.hid ((hOld (w.heap.size + 1) (by omega) (by omega)).trans HRA.out); have d5 := cell_of_row _ _ 5 _ _ _ hVP; have f5 := frz hVP 5; have HGO := Lib.hid (hOld2 g hgl (Ne.symm hpg) (Ne.symm hmg) (fun e => (hv g e).2.1 rfl)); clear hVP hKO hOld hOld2 hown hgrow hat hlt)
    all_goals
      clear d5 f5 n5 n3 m3 m5
      generalize V.setCell ⟨pb, 5, none⟩ (.slice (some ⟨g1, 0, none⟩) (ks.length + 1) c1) = V1 at HKO HT5 HT6 HGO ⊢
      go_wp2_with fail
      (with_reducible refine (HN.out V1 HKO.out HGO.out).mono ?_)
      rintro e w2 ⟨rfl, hg2, hp2⟩
      have HP2 := Lib.hid hp2
      have HG2 : Hid (V1.grownBy w2 (some g)) := hg2
      have HU5 : Hid (w2.heap[w.heap.size]? = some (obT 7 ta tb (mkS t) tn)) := (hg2.block _ (Array.getElem?_eq_some_iff.1 HT5.out).1 (fun e => by injection e with e; omega)).trans HT5.out
      have HU6 : Hid (w2.heap[w.heap.size + 1]? = some (obT 0 0 0 ⟨#[]⟩ 0)) := (hg2.block _ (Array.getElem?_eq_some_iff.1 HT6.out).1 (fun e => by injection e with e; omega)).trans HT6.out
      clear hg2 hp2 HT5 HT6 l5 hlB
      obtain ⟨y0, y1, y2, y3, y4⟩ := cells5 HU5.out
      have q0 := frz HU5.out 0
      have q1 := frz HU5.out 1
      have q2 := frz HU5.out 2
      have q3 := frz HU5.out 3
      have q4 := frz HU5.out 4
      have nN := neN
      go_upto_region 7 with (fail)
      obtain ⟨w3, hw3⟩ : ∃ w3, w3 = ((((((w2.setCell ⟨w.heap.size, 0, none⟩ (.int .i64 5)).setCell ⟨w.heap.size, 1, none⟩ (.int .i64 ta2)).setCell ⟨w.heap.size, 2, none⟩ (.int .i64 tb2)).setCell ⟨w.heap.size, 3, none⟩ (.string tx2)).setCell ⟨w.heap.size, 4, none⟩ (.int .i64 tn2))) := ⟨_, rfl⟩
      have HY3 : Hid (w3.heap[w.heap.size]? = some (.cells #[.int .i64 5, .int .i64 ta2, .int .i64 tb2, .string tx2, .int .i64 tn2] 60 (0, 0))) := by rw [hw3]; exact set5 HU5.out _ _ _ _ _
      have HR3 : Hid (Grw (T2 w) w2 w3) := by rw [hw3]; exact (gr_set5 w2 w.heap.size (.int .i64 5) (.int .i64 ta2) (.int .i64 tb2) (.string tx2) (.int .i64 tn2)).mono (fun j _ h => .inl h)
      have HT3 : Hid (w3.heap[w.heap.size + 1]? = some (obT 0 0 0 ⟨#[]⟩ 0)) := by
        rw [hw3]
        exact Lib.hid (((gr_set5 w2 w.heap.size (.int .i64 5) (.int .i64 ta2) (.int .i64 tb2) (.string tx2) (.int .i64 tn2)).block (Array.getElem?_eq_some_iff.1 HU6.out).1 (by omega)).trans HU6.out)
      rw [← hw3]
      clear hw3 y0 y1 y2 y3 y4 q0 q1 q2 q3 q4
      obtain ⟨y0, y1, y2, y3, y4⟩ := cells5 HY3.out
      go_wp2_with fail
      (with_reducible refine (HQ.out V1 w2 w3 HKO.out HG2.out HP2.out HR3.out).mono ?_)
      rintro e w4 ⟨rfl, hg4, hp4⟩
      clear y0 y1 y2 y3 y4
      have HP4 := Lib.hid hp4
      have HG4 : Hid (w3.grownBy w4 (some g)) := hg4
      have HT4 : Hid (w4.heap[w.heap.size + 1]? = some (obT 0 0 0 ⟨#[]⟩ 0)) := (hg4.block _ (Array.getElem?_eq_some_iff.1 HT3.out).1 (fun e => by injection e with e; omega)).trans HT3.out
      clear hg4 hp4
      obtain ⟨u0, u1, u2, u3, u4⟩ := cells5 HT4.out
      have r0 := frz HT4.out 0
      have r1 := frz HT4.out 1
      have r2 := frz HT4.out 2
      have r3 := frz HT4.out 3
      have r4 := frz HT4.out 4
      have HH := Lib.hid (set5 HT4.out (.int .i64 k3) (.int .i64 ta3) (.int .i64 tb3) (.string tx3) (.int .i64 tn3))
      have HZ : Hid (Grw (T2 w) w4 _) := (gr_set5 w4 (w.heap.size + 1) (.int .i64 k3) (.int .i64 ta3) (.int .i64 tb3) (.string tx3) (.int .i64 tn3)).mono (fun j _ h => .inr h)
      go_wp2
      obtain ⟨d0, d1, d2, d3, d4⟩ := cells5 HH.out
      clear u0 u1 u2 u3 u4 r0 r1 r2 r3 r4
      (with_reducible refine bodyPost_ret (v := .tuple #[.agg #[.int .i64 k3, .int .i64 ta3, .int .i64 tb3, .string tx3, .int .i64 tn3], er3]) (by simp [results, Tryz.results64, go_sem, d0, d1, d2, d3, d4]) rfl ⟨rfl, V1, w2, w3, w4, HKO.out, HG2.out, HP2.out, HR3.out, HG4.out, HP4.out, HZ.out⟩)
end Go.Proofs.YtpgllcdcpdeicaaGreatDoor.Jv
