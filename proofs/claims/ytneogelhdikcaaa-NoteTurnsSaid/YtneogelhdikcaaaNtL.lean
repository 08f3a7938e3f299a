/- An outbox as the list of all that was ever told; the contract of Step said so; the chapter's example; the law NoteNil; no other condition. -/
import Derived.Test.YtneogelhdikcaaaNtK
namespace Go.Proofs.Ytneogelhdikcaaa.Nt
open Go.RowKit Go.Lib Go.Maps
set_option linter.unusedSimpArgs false
set_option linter.unusedVariables false

/-- how many went -/
def dd (m : Int) (all : List Ent) : Nat := all.length - (max m 1).toNat
abbrev IsNo (B c : Nat) (gb mb : Option Nat) (m : Int) (now : List Tx) (all : List Ent) (W : World) : Prop := IsOb B c gb mb m now (all.drop (dd m all)) ((dd m all : Nat) : Int) ((all.length : Nat) : Int) W
/-- numbers without a gap -/
def Seqs (all : List Ent) : Prop := ∀ i (h : i < all.length), all[i].1 = (i : Int) + 1
theorem Seqs.nil : Seqs [] := fun i h => by simp at h
theorem nums_seq {rev : Int} {n : Nat} {l : List TB} {i : Nat} (h : i < (nums rev n l).length) : (nums rev n l)[i].1 = (n : Int) + (i : Int) + 1 := by
  have h1 := nums_at rev n l i (by rwa [nums_len] at h)
  rw [List.getElem?_eq_getElem h] at h1
  rw [Option.some.inj h1]
theorem Seqs.step {all : List Ent} (h : Seqs all) (now : List Tx) (rev : Int) (gs : List Tx) : Seqs (stepE all now rev gs) := fun i hi => by
  unfold stepE at hi ⊢
  rcases Nat.lt_or_ge i all.length with q | q
  · rw [List.getElem_append_left q]; exact h i q
  · rw [List.getElem_append_right q, nums_seq]; omega
theorem stepE_len (all : List Ent) (now : List Tx) (rev : Int) (gs : List Tx) : (stepE all now rev gs).length = all.length + (told (canon gs) now).length := by
  unfold stepE; rw [List.length_append, nums_len]
theorem dd_step {m : Int} {all X : List Ent} : dd m all + keepN m (all.drop (dd m all) ++ X) = dd m (all ++ X) := by
  unfold keepN dd
  rw [List.length_append, List.length_append, List.length_drop]
  omega
theorem dd_drop {m : Int} {all X : List Ent} : (all.drop (dd m all) ++ X).drop (keepN m (all.drop (dd m all) ++ X)) = (all ++ X).drop (dd m (all ++ X)) := by
  have h : all.drop (dd m all) ++ X = (all ++ X).drop (dd m all) := by
    rw [List.drop_append_of_le_length]
    unfold dd; omega
  rw [← dd_step, ← List.drop_drop, h]
theorem dd_floor {m : Int} {all X : List Ent} (h : Seqs (all ++ X)) : keepF m ((dd m all : Nat) : Int) (all.drop (dd m all) ++ X) = ((dd m (all ++ X) : Nat) : Int) := by
  have e := dd_step (m := m) (all := all) (X := X)
  have hh : all.drop (dd m all) ++ X = (all ++ X).drop (dd m all) := by
    rw [List.drop_append_of_le_length]
    unfold dd; omega
  have hk : keepN m (all.drop (dd m all) ++ X) ≤ (all.drop (dd m all) ++ X).length := by unfold keepN; omega
  unfold keepF
  split
  · rename_i h0; rw [h0] at e; rw [← e]; rfl
  · rename_i h0
    have hlt : dd m all + (keepN m (all.drop (dd m all) ++ X) - 1) < (all ++ X).length := by
      rw [hh, List.length_drop] at hk
      rw [hh] at h0 ⊢
      omega
    rw [← e]
    generalize keepN m (all.drop (dd m all) ++ X) = k at *
    rw [hh, List.getElem?_drop, List.getElem?_eq_getElem hlt]
    show (all ++ X)[dd m all + (k - 1)].1 = _
    rw [h _ hlt]; omega
def StN (B c : Nat) (gb mb : Option Nat) (m : Int) (now : List Tx) (all : List Ent) (rev : Int) (gs : List Tx) (w : World) (e : Ending) (w' : World) : Prop :=
  ∃ v mb' gb', e = .returned v ∧ RdE v (nums rev all.length (told (canon gs) now)) w' ∧ IsNo B c gb' mb' m (canon gs) (stepE all now rev gs) w' ∧ Ch c gb w w' ∧ NewB gb gb' w ∧ (∃ b, mb' = some b ∧ w.heap.size ≤ b) ∧ (∀ g, v.ownBlock = some g → w.heap.size ≤ g ∧ gb' ≠ some g)
theorem Step_n {B c : Nat} {gb mb : Option Nat} {m : Int} {now : List Tx} {all : List Ent} {w : World} (h : IsNo B c gb mb m now all w) (hs : Seqs all) (hB : B ≤ w.heap.size) (rev : Int) (ao : Option Addr) (cap : Nat) (gs : List Tx)
    (hR : RdT (.slice ao gs.length cap) gs w) (hl : gs.length ≤ 1000) (hsz : ∀ x ∈ gs, (mkS x).size ≤ maxLen) (hnw : now.length ≤ 1000) (ha : all.length ≤ 500000) (hmi : m ≤ 9223372036854775807) :
    Calls Try.prog 9 #[.pointer (some ⟨c, 0, none⟩), .int .i64 rev, .slice ao gs.length cap] w (StN B c gb mb m now all rev gs w) := by
  refine (Step_c h hB rev ao cap gs hR hl hsz hnw (by rw [List.length_drop]; omega) ha hmi).mono ?_
  rintro e w' ⟨v, mb', gb', rfl, h1, h2, h3, h4, h5, h6⟩
  refine ⟨v, mb', gb', rfl, h1, ?_, h3, h4, h5, h6⟩
  rw [dd_drop, dd_floor (hs.step now rev gs)] at h2
  have e1 : ((all.length : Nat) : Int) + ((told (canon gs) now).length : Nat) = ((stepE all now rev gs).length : Nat) := by rw [stepE_len]; omega
  rw [e1] at h2
  exact h2
theorem New_n (m : Int) (w : World) : Calls Try.prog 6 #[.int .i64 m] w fun e w' => e = .returned (.pointer (some ⟨w.heap.size, 0, none⟩)) ∧ IsNo w.heap.size w.heap.size none none m [] [] w' ∧ Below w.heap.size w w' := by
  refine (New_c m w).mono ?_
  rintro e w' ⟨rfl, h1, h2⟩
  refine ⟨rfl, ?_, h2⟩
  have : dd m ([] : List Ent) = 0 := by unfold dd; simp
  unfold IsNo
  rw [this]; exact h1
theorem rdT_one (x : Tx) (w : World) : RdT (.slice (some ⟨w.heap.size, 0, none⟩) [x].length 1) [x] (w.alloc (.cells #[.string (mkS x)] 9)) :=
  ⟨_, _, rfl, fun _ => ⟨w.heap.size, 0, rfl, by simp, fun j u hu => by
    rw [Nat.zero_add]
    have : tC [x] = [Value.string (mkS x)] := rfl
    rw [this] at hu
    rw [cell_of_row _ _ j _ _ _ (heap_alloc_new w (.cells #[.string (mkS x)] 9))]
    simpa using hu⟩⟩
theorem RdE.at0 {n : Nat} {l : List Ent} {v : Value} {w : World} (h : RdE v l w) (hn : l.length = n) (h0 : 0 < n) : ∃ g o cap, v = .slice (some ⟨g, o, none⟩) n cap ∧ w.rangeAt g o (eC l) := by
  obtain ⟨ao, cap, rfl, h⟩ := h
  obtain ⟨g, o, rfl, _, h2⟩ := h (by omega)
  exact ⟨g, o, cap, by rw [hn], h2⟩
theorem RdE.keep {l : List Ent} {v : Value} {w W : World} (h : RdE v l w) (hs : w.heap.size ≤ W.heap.size) (hb : ∀ g, v.ownBlock = some g → g < w.heap.size → W.heap[g]? = w.heap[g]?) : RdE v l W := by
  obtain ⟨ao, cap, rfl, h⟩ := h
  refine ⟨ao, cap, rfl, fun h0 => ?_⟩
  obtain ⟨g, o, rfl, h1, h2⟩ := h h0
  refine ⟨g, o, rfl, Nat.lt_of_lt_of_le h1 hs, fun j u hu => ?_⟩
  rw [World.cell?_of_block (w := w) (a := ⟨g, o + j, none⟩) (hb g rfl h1)]
  exact h2 j u hu
theorem told1 : told (canon [[97]]) [] = [([97], true)] := by decide
theorem told2 : told (canon [[98]]) (canon [[97]]) = [([97], false), ([98], true)] := by decide
set_option maxRecDepth 100000 in
set_option maxHeartbeats 8000000 in
theorem awake_c (w : World) : Calls Try.prog 19 #[] w fun e w' => e = .returned (.bool true) ∧ Below w.heap.size w w' := by
  go_enter Try.func19, Try.ntmps19
  go_wp2_with fail
  refine (New_n 9 w).mono ?_
  rintro e w1 ⟨rfl, hn1, hb1⟩
  obtain ⟨W2, hW2, _, hbW2⟩ := new1 w1 (.string (mkS [97])) 9
  have hn2 := hn1.go hbW2
  have hS := Step_n hn2 Seqs.nil (Nat.le_trans hb1.size hbW2.size) 1 (some ⟨w1.heap.size, 0, none⟩) 1 [[97]] (by rw [hW2]; exact rdT_one [97] w1) (by simp) (by simp [mkS, maxLen]; decide) (by simp) (by simp) (by omega)
  have HS := Lib.hid hS
  have HB2 : Hid (Below w.heap.size w W2) := hb1.trans (hbW2.mono hb1.size)
  have HW2 : Hid (W2 = w1.alloc (.cells #[.string ⟨#[97]⟩] 9)) := hW2
  have HSZ : Hid (w.heap.size < W2.heap.size) := Nat.lt_of_lt_of_le hn1.lt hbW2.size
  clear hn1 hb1 hW2 hbW2 hn2 hS
  obtain ⟨c, hc⟩ : ∃ c, c = w.heap.size := ⟨_, rfl⟩
  rw [← hc] at HS
  have HC := Lib.hid hc
  rw [← hc]
  clear hc
  go_wp2_with fail
  rw [← HW2.out]
  refine HS.out.mono ?_
  rintro e w3 ⟨v1, mb1, gb1, rfl, hr1, hn3, hc3, hnb3, _, hv1⟩
  rw [told1] at hr1
  have hst1 : stepE [] [] 1 [[97]] = [(1, 1, [97], true)] := by unfold stepE; rw [told1]; rfl
  have hx1 : nums 1 ([] : List Ent).length [(([97] : Tx), true)] = [(1, 1, [97], true)] := rfl
  rw [hst1] at hn3
  rw [hx1] at hr1
  have hB3 : Below c W2 w3 := hc3.below (by have := HSZ.out; have := HC.out; omega) (Nat.le_refl _) (fun g hg => by cases hg)
  obtain ⟨W4, hW4, _, hbW4⟩ := new1 w3 (.string (mkS [98])) 9
  have hn4 := hn3.go hbW4
  have hsq1 : Seqs [(1, 1, [97], true)] := fun i h => by
    match i, h with
    | 0, _ => rfl
  have HG1 : Hid (∀ g, gb1 = some g → c ≤ g) := fun g hg => (hn3.row g hg).1
  have hS2 := Step_n hn4 hsq1 (Nat.le_trans (Nat.le_of_lt hn3.lt) hbW4.size) 2 (some ⟨w3.heap.size, 0, none⟩) 1 [[98]] (by rw [hW4]; exact rdT_one [98] w3) (by simp) (by simp [mkS, maxLen]; decide) (by have := canon_len [[97]]; simp at this ⊢; omega) (by simp) (by omega)
  have HS2 := Lib.hid hS2
  have HR1 : Hid (RdE v1 [(1, 1, [97], true)] W4) := hr1.keep hbW4.size (fun g _ h => hbW4.block g h)
  have HV1 : Hid (∀ g, v1.ownBlock = some g → g ≠ c ∧ gb1 ≠ some g) := fun g hg => by
    have h1 := hv1 g hg
    have := HSZ.out
    have := HC.out
    exact ⟨by omega, h1.2⟩
  have HW4 : Hid (W4 = w3.alloc (.cells #[.string ⟨#[98]⟩] 9)) := hW4
  have HB4 : Hid (Below c w W4) := by
    have h1 : Below c w W2 := by rw [HC.out]; exact HB2.out
    exact (h1.trans hB3).trans (hbW4.mono (Nat.le_of_lt hn3.lt))
  clear hr1 hn3 hc3 hnb3 hv1 hst1 hx1 hB3 hW4 hbW4 hn4 hS2 HS HW2 HB2
  go_wp2_with fail
  rw [← HW4.out]
  refine HS2.out.mono ?_
  rintro e w5 ⟨v2, mb2, gb2, rfl, hr2, hn5, hc5, hnb5, _, hv2⟩
  rw [told2] at hr2
  have hst2 : stepE [(1, 1, [97], true)] (canon [[97]]) 2 [[98]] = [(1, 1, [97], true), (2, 2, [97], false), (3, 2, [98], true)] := by unfold stepE; rw [told2]; rfl
  have hx2 : nums 2 ([((1 : Int), (1 : Int), ([97] : Tx), true)] : List Ent).length [(([97] : Tx), false), ([98], true)] = [(2, 2, [97], false), (3, 2, [98], true)] := rfl
  rw [hst2] at hn5
  rw [hx2] at hr2
  have hr1 := HR1.out.keep hc5.size (fun g hg h => hc5.block g h (HV1.out g hg).1 (fun e => (HV1.out g hg).2 e.symm))
  obtain ⟨g1, o1, cp1, rfl, hat1⟩ := hr1.at0 (n := 1) rfl (by omega)
  obtain ⟨g2, o2, cp2, rfl, hat2⟩ := hr2.at0 (n := 2) rfl (by omega)
  have p1 : w5.cell? ⟨g1, o1 + 3, none⟩ = some (.bool true) := hat1 3 _ rfl
  have p2 : w5.cell? ⟨g2, o2 + 3, none⟩ = some (.bool false) := hat2 3 _ rfl
  have p3 : w5.cell? ⟨g2, o2 + 2, none⟩ = some (.string ⟨#[97]⟩) := hat2 2 _ rfl
  have p4 : w5.cell? ⟨g2, o2 + 4 + 3, none⟩ = some (.bool true) := hat2 7 _ rfl
  have HL : Hid (Calls Try.prog 12 #[.pointer (some ⟨c, 0, none⟩)] w5 fun e w' => e = .returned (.int .i64 3) ∧ w' = w5) := Last_c hn5
  have HB5 : Hid (Below w.heap.size w w5) := by
    rw [← HC.out]
    exact HB4.out.trans (hc5.below (by have := HB4.out.size; have := HC.out; omega) (Nat.le_refl _) HG1.out)
  clear hr1 hr2 hn5 hc5 hnb5 hv2 hst2 hx2 hat1 hat2 HR1 HV1 HS2
  go_wp2_with fail
  refine HL.out.mono ?_
  rintro e w6 ⟨rfl, rfl⟩
  go_wp2
  go_ret
  exact ⟨rfl, HB5.out⟩
set_option maxRecDepth 100000 in
set_option maxHeartbeats 2000000 in
theorem nil_law (n : Int) (v : Value) (w : World) : Calls Try.prog 5 #[.int .i64 n, v] w fun e w' => e = .returned (.bool true) ∧ Below w.heap.size w w' := by
  go_enter Try.func5, Try.ntmps5
  go_wp2_with fail
  refine (Since_nil n w).mono ?_
  rintro e w1 ⟨rfl, rfl⟩
  go_wp2_with fail
  refine (Step_nil n v w1).mono ?_
  rintro e w2 ⟨rfl, rfl⟩
  go_wp2_with fail
  refine (Firing_nil w2).mono ?_
  rintro e w3 ⟨rfl, rfl⟩
  go_wp2_with fail
  refine (Last_nil w3).mono ?_
  rintro e w4 ⟨rfl, rfl⟩
  go_wp2_with fail
  refine (Floor_nil w4).mono ?_
  rintro e w5 ⟨rfl, rfl⟩
  go_wp2_with fail
  refine (Len_nil w5).mono ?_
  rintro e w6 ⟨rfl, rfl⟩
  go_wp2_with fail
  refine (awake_c w6).mono ?_
  rintro e w7 ⟨rfl, hb⟩
  have HB := Lib.hid hb
  clear hb
  go_wp2
  go_ret
  exact ⟨rfl, HB.out⟩
end Go.Proofs.Ytneogelhdikcaaa.Nt
