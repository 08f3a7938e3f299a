/- Contracts of Lower and Same of package chars, and of the document's own Lower: for every text of at most a thousand bytes. -/
import Derived.Test.YtkblggpnghdnmaaGreatDoorChCuts
import Derived.Laws.IdiomStrings
namespace Go.Proofs.YtkblggpnghdnmaaGreatDoor.Ch
open Go.RowKit
set_option linter.unusedSimpArgs false
set_option linter.unusedVariables false

/-- block g holds just these bytes, and may be written -/
def BRow (w : World) (g : Nat) (l : List UInt8) : Prop := ∀ j (hj : j < l.length), w.cell? ⟨g, j, none⟩ = some (.int .u8 (l[j].toNat : Int)) ∧ w.frozen? ⟨g, j, none⟩ = false
theorem BRow.set {w : World} {g : Nat} {l : List UInt8} (h : BRow w g l) (k : Nat) (b : UInt8) : BRow (w.setCell ⟨g, k, none⟩ (.int .u8 (b.toNat : Int))) g (l.set k b) := by
  intro j hj
  have hj' : j < l.length := by simpa using hj
  refine ⟨?_, (World.frozen?_setCell _ _ _ _).trans (h j hj').2⟩
  by_cases e : k = j
  · subst e
    rw [World.cell?_setCell_same w _ _ (h k hj').1]
    simp
  · rw [World.cell?_setCell_other w _ _ _ (by intro he; injection he; omega), (h j hj').1]
    simp [e]
theorem bytes_conv (s : ByteArray) (w : World) : ∃ cap W0, (convert 9 76 (.string s)).run Tryz.prog w = .ok (.slice (some ⟨w.heap.size, 0, none⟩) s.size cap) W0 ∧ BRow W0 w.heap.size s.data.toList ∧ Below w.heap.size w W0 := by
  refine ⟨_, _, run_bytes_of_string w 9 76 5 s Tryz.underlying9 Tryz.underlying76 Tryz.underlying5, ?_, ((Below.refl _ _).drew).alloc (Nat.le_refl _) _⟩
  intro j hj
  have hj' : j < s.size := by rw [Lib.size_eq]; exact hj
  have hg : grownCap w s.size 0 5 = grownCap w s.size 0 5 := rfl
  have e1 : w.heap.size = w.drew.heap.size := rfl
  refine ⟨?_, ?_⟩
  · rw [e1, World.cell?_alloc_mark, bytesRow_at s _ j hj']; rfl
  · rw [e1, World.frozen?_alloc_mark]
    have hbs : ∀ c, (bytesRow s c).size = s.size + (c - s.size) := fun c => by unfold bytesRow; rw [Array.size_append, Array.size_map, Array.size_replicate]; rfl
    have : ¬ (bytesRow s (grownCap w s.size 0 5)).size ≤ j := by rw [hbs]; omega
    simp [this]
theorem bytes_back {w : World} {g : Nat} {l : List UInt8} (h : BRow w g l) (n cap : Nat) (hn : n = l.length) : (convert 76 9 (.slice (some ⟨g, 0, none⟩) n cap)).run Tryz.prog w = .ok (.string (mkS l)) w := by
  subst hn
  exact run_convert_bytes_back w 76 9 5 ⟨g, 0, none⟩ cap l Tryz.underlying76 Tryz.underlying5 Tryz.underlying9 (fun j hj => by
    have e : (⟨g, 0, none⟩ : Addr).add j = ⟨g, j, none⟩ := by unfold Addr.add; split <;> simp_all
    rw [e]; exact (h j hj).1)

def low_k (l : List UInt8) (k : Nat) : List UInt8 := lowL (l.take k) ++ l.drop k
theorem low_k_len (l : List UInt8) (k : Nat) : (low_k l k).length = l.length := by unfold low_k lowL; simp; omega
theorem low_k_at (l : List UInt8) (k : Nat) (hk : k < l.length) : (low_k l k)[k]'(by rw [low_k_len]; exact hk) = l[k] := by
  have hl : (lowL (l.take k)).length = k := by unfold lowL; simp; omega
  unfold low_k
  rw [List.getElem_append_right (by omega)]
  simp [hl]
theorem low_k_same (l : List UInt8) (k : Nat) (hk : k < l.length) (h : lowB l[k] = l[k]) : low_k l (k + 1) = low_k l k := by
  unfold low_k lowL
  rw [List.take_succ_eq_append_getElem hk, List.map_append, List.drop_eq_getElem_cons hk]
  simp [h]
theorem low_k_set (l : List UInt8) (k : Nat) (hk : k < l.length) : low_k l (k + 1) = (low_k l k).set k (lowB l[k]) := by
  have hl : (List.map lowB (l.take k)).length = k := by simp; omega
  unfold low_k lowL
  rw [List.take_succ_eq_append_getElem hk, List.map_append, List.set_append_right _ _ (by omega), hl, Nat.sub_self]
  have e : (l.drop k).set 0 (lowB l[k]) = lowB l[k] :: l.drop (k + 1) := by rw [List.drop_eq_getElem_cons hk, List.set_cons_zero]
  rw [e]
  simp
theorem low_gre {b : UInt8} (h : greB (b.toNat : Int) = true) : ((lowB b).toNat : Int) = (b.toNat : Int) + 32 := by
  unfold lowB
  rw [h]
  have h2 := of_decide_eq_true h
  rw [if_pos rfl, UInt8.toNat_add]
  have : (32 : UInt8).toNat = 32 := rfl
  rw [this]
  omega
theorem low_not {b : UInt8} (h : greB (b.toNat : Int) = false) : lowB b = b := by unfold lowB; rw [h]; rfl

set_option maxRecDepth 100000 in
set_option maxHeartbeats 2000000 in
theorem low_c (s : ByteArray) (w : World) (hs : s.size ≤ 1000) : Calls Tryz.prog 62 #[.string s] w fun e w' => e = .returned (.string (mkS (lowL s.data.toList))) ∧ Below w.heap.size w w' := by
  obtain ⟨cap, W0, hrun, hrow, hbel⟩ := bytes_conv s w
  have HR := Lib.hid hrow
  have HB := Lib.hid hbel
  have hsl := Lib.hid (Lib.size_eq s)
  clear hrow hbel
  go_enter Tryz.func62, Tryz.ntmps62
  go_wp2
  clear hrun
  go_loopw [10] (fun i wr => ∃ k : Nat, k ≤ s.size ∧ i = .int .i64 k ∧ BRow wr w.heap.size (low_k s.data.toList k) ∧ Below w.heap.size w wr) (fun i _ => s.size - (intOf i).toNat)
  case atStart => exact ⟨0, by omega, rfl, by simpa [low_k, lowL] using HR.out, HB.out⟩
  case round =>
    clear HR HB
    obtain ⟨k, hk, rfl, hrow, hB⟩ := hrel
    have HR := Lib.hid hrow
    have HB := Lib.hid hB
    clear hrow hB
    by_cases hlt : k < s.size
    · have hlt2 : k < s.data.toList.length := by rw [← hsl.out]; exact hlt
      have hc := HR.out k (by rw [low_k_len]; exact hlt2)
      rw [low_k_at _ _ hlt2] at hc
      obtain ⟨hc1, hc2⟩ := hc
      have HS := Lib.hid (low_k_set s.data.toList k hlt2)
      have HQ := Lib.hid (low_k_same s.data.toList k hlt2)
      obtain ⟨b, hbe⟩ : ∃ b, b = s.data.toList[k] := ⟨_, rfl⟩
      rw [← hbe] at hc1 HS HQ
      clear hbe
      have HG := Lib.hid (@low_gre b)
      have HN := Lib.hid (@low_not b)
      clear hlt2
      cases hg : greB (b.toNat : Int) with
      | true =>
        have hlo : 65 ≤ (b.toNat : Int) := (of_decide_eq_true hg).1
        have hhi : (b.toNat : Int) ≤ 90 := (of_decide_eq_true hg).2
        have HGR := Lib.hid hg
        go_wp2_with (go_at_call 82; refine (gre_c _ _).mono ?_; rintro e w' ⟨rfl, rfl⟩)
        go_roundw
        case rel => exact ⟨k + 1, by omega, by go_num, by rw [HS.out, show (b.toNat : Int) - 65 + 97 = ((lowB b).toNat : Int) from by rw [HG.out HGR.out]; omega]; exact HR.out.set k _, HB.out.setCell (by simp) _⟩
        case measure => simp [intOf]; omega
      | false =>
        have HGR := Lib.hid hg
        go_wp2_with (go_at_call 82; refine (gre_c _ _).mono ?_; rintro e w' ⟨rfl, rfl⟩)
        go_roundw
        case rel => exact ⟨k + 1, by omega, by go_num, by rw [HQ.out (HN.out HGR.out)]; exact HR.out, HB.out⟩
        case measure => simp [intOf]; omega
    · have HK : Hid (low_k s.data.toList k = lowL s.data.toList) := by
        show low_k s.data.toList k = lowL s.data.toList
        have := hsl.out
        unfold low_k
        rw [List.take_of_length_le (by omega), List.drop_of_length_le (by omega), List.append_nil]
      have hcv : (convert 76 9 (.slice (some ⟨w.heap.size, 0, none⟩) s.size cap)).run Tryz.prog wr = .ok (.string (mkS (low_k s.data.toList k))) wr :=
        bytes_back HR.out s.size cap (by rw [low_k_len]; exact hsl.out)
      rw [HK.out] at hcv
      go_wp2
      go_ret
      exact ⟨rfl, HB.out⟩

/-- what the document's loop keeps behind k bytes -/
def LRel (l : List UInt8) (k : Nat) (u : Value) : Prop := ∃ t : ByteArray, u = .string t ∧ t.size = k ∧ t.data.toList = lowL (l.take k)

theorem one_conv (w : World) (b : UInt8) (x : Int) (hx : x = (b.toNat : Int)) : (convert 76 9 (.slice (some ⟨w.heap.size, 0, none⟩) 1 1)).run Tryz.prog (w.alloc (.cells #[.int .u8 x] 5)) = .ok (.string (mkS [b])) (w.alloc (.cells #[.int .u8 x] 5)) := by
  subst hx
  refine run_convert_bytes_back _ 76 9 5 ⟨w.heap.size, 0, none⟩ 1 [b] Tryz.underlying76 Tryz.underlying5 Tryz.underlying9 (fun j hj => ?_)
  obtain rfl : j = 0 := by simpa using hj
  rw [show (⟨w.heap.size, 0, none⟩ : Addr).add 0 = ⟨w.heap.size, 0, none⟩ from rfl, World.cell?_alloc_at _ _ _ _ rfl]
  rfl
theorem lrel_step {s t : ByteArray} {k : Nat} (hk : k < s.size) (ht : t.data.toList = lowL (s.data.toList.take k)) (hz : t.size = k) : LRel s.data.toList (k + 1) (.string (t ++ mkS [lowB s[k]])) := by
  have e : (t ++ mkS [lowB s[k]]).data.toList = lowL (s.data.toList.take k) ++ [lowB s[k]] := by rw [app_data, data_mkS, ht]
  refine ⟨_, rfl, ?_, ?_⟩
  · rw [Lib.size_eq, e, ← ht, List.length_append, ← Lib.size_eq, hz]; rfl
  · rw [e, take_snoc hk]; unfold lowL; rw [List.map_append]; rfl

theorem str_eq (a b : List UInt8) : ((mkS a).toList == (mkS b).toList) = decide (a = b) := by rw [str_empty, str_empty]; rw [Bool.eq_iff_iff]; simp

set_option maxRecDepth 100000 in
set_option maxHeartbeats 2000000 in
theorem same_c (a b : ByteArray) (w : World) (ha : a.size ≤ 1000) (hb : b.size ≤ 1000) :
    Calls Tryz.prog 43 #[.string a, .string b] w fun e w' => e = .returned (.bool (decide (lowL a.data.toList = lowL b.data.toList))) ∧ Below w.heap.size w w' := by
  have hea := Lib.hid (Lib.size_eq a)
  have heb := Lib.hid (Lib.size_eq b)
  by_cases hl : a.size = b.size
  · have hl' : ((a.size : Int) == (b.size : Int)) = true := by simp [hl]
    have hd : decide (a.size = b.size) = true := by simp [hl]
    have HQ := Lib.hid (str_eq (lowL a.data.toList) (lowL b.data.toList))
    have HA := Lib.hid (fun W => low_c a W ha)
    have HBB := Lib.hid (fun W => low_c b W hb)
    clear hl
    go_enter Tryz.func43, Tryz.ntmps43
    go_wp2_with fail
    refine (HA.out _).mono ?_
    rintro e w1 ⟨rfl, hb1⟩
    have HB1 := Lib.hid hb1
    clear hb1
    go_wp2_with fail
    refine (HBB.out _).mono ?_
    rintro e w2 ⟨rfl, hb2⟩
    have HB2 := Lib.hid hb2
    clear hb2
    go_wp2
    go_ret
    exact ⟨ret_bool HQ.out, HB1.out.trans (HB2.out.mono HB1.out.size)⟩
  · have hl' : ((a.size : Int) == (b.size : Int)) = false := by simp; omega
    have hd : decide (a.size = b.size) = false := by simp [hl]
    have HE : Hid (decide (lowL a.data.toList = lowL b.data.toList) = false) := by
      show decide (lowL a.data.toList = lowL b.data.toList) = false
      apply decide_eq_false
      intro h
      have := congrArg List.length h
      have h1 := hea.out
      have h2 := heb.out
      unfold lowL at this
      simp only [List.length_map] at this
      omega
    clear hl
    go_enter Tryz.func43, Tryz.ntmps43
    go_wp2
    go_ret
    exact ⟨ret_bool (by rw [HE.out]), Below.refl _ _⟩
end Go.Proofs.YtkblggpnghdnmaaGreatDoor.Ch
