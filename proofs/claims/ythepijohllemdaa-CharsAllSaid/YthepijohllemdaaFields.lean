/- Contracts of Fields and Cut, of both packages: the parts that the document asks for, in memory of the call's own; for every text of at most a thousand bytes and every byte. -/
import Derived.Test.YthepijohllemdaaTrims
import Derived.Lib.SmallJoins
namespace Go.Proofs.Ythepijohllemdaa
open Go.RowKit
set_option linter.unusedSimpArgs false
set_option linter.unusedVariables false

def vs (ss : List (List UInt8)) : List Value := ss.map (fun l => .string (mkS l))
theorem vs_len (ss : List (List UInt8)) : (vs ss).length = ss.length := by simp [vs]
theorem vs_app (a b : List (List UInt8)) : vs (a ++ b) = vs a ++ vs b := by simp [vs]
/-- the call hands back a slice of its own, of just these texts, and leaves what lies below B as it was -/
def Owned (B : Nat) (ss : List (List UInt8)) (w : World) (e : Ending) (w' : World) : Prop := ∃ v, e = .returned v ∧ w'.ownsRow B 9 1 v ss.length (vs ss) ∧ Below B w w' 

theorem info9 : (Try.prog.info? 9).map (fun i => (i.zero, i.size, i.bytes)) = some (some (.string ByteArray.empty), 1, 16) := by kernel_rfl

theorem str_empty (l : List UInt8) : (mkS l).toList = l := by rw [Lib.toList_data, data_mkS]

set_option maxHeartbeats 1000000 in
theorem part_c (B : Nat) (v : Value) (ss : List (List UInt8)) (s : ByteArray) (w : World) (hs : s.size ≤ maxLen) (hn : ss.length ≤ 2000) (hB : B ≤ w.heap.size) (hown : w.ownsRow B 9 1 v ss.length (vs ss)) :
    Calls Try.prog 31 #[v, .string s] w (Owned B (ss ++ keepL s.data.toList) w) := by
  obtain ⟨i0, hi, hz0, hz1, hz2⟩ := info_parts info9
  have ht := Lib.hid (trim_c s w hs)
  have hk : Hid (keepL s.data.toList = if trimL s.data.toList = [] then [] else [trimL s.data.toList]) := rfl
  revert ht hk
  generalize trimL s.data.toList = l
  intro ht hk
  by_cases he : l = []
  · subst he
    have hem : (mkS []).toList.isEmpty = true := by rw [str_empty]; rfl
    go_enter Try.func31, Try.ntmps31
    go_wp2_with (go_at_call 25; refine ht.out.mono ?_; rintro e w' ⟨rfl, rfl⟩)
    go_ret
    exact ⟨v, rfl, by rw [hk.out]; simpa using hown, Below.refl _ _⟩
  · have hem : (mkS l).toList.isEmpty = false := by rw [str_empty]; simpa using he
    have HE := Lib.hid he
    clear he
    go_enter Try.func31, Try.ntmps31
    go_wp2_with (first
      | (go_at_call 25; refine ht.out.mono ?_; rintro e w' ⟨rfl, rfl⟩)
      | (at_builtin; refine wpList_append_own _ rfl _ _ 28 rfl B 9 i0 (.string ByteArray.empty) 1 16 Try.underlying28 hi hz0 hz1 hz2 rfl (by decide) _ _ _ rfl (hown.alloc _) ⟨w.heap.size, 0, none⟩ 1 1 [.string (mkS l)] rfl rfl ?c1 ?c2 ?c3 ?c4 ?c5 ?_))
    case c1 =>
      intro j u hj
      match j, hj with
      | 0, hj => simp at hj; subst hj; simp [Addr.add]
    case c2 => intro u hu; simp at hu; subst hu; rfl
    case c3 => unfold maxLen; omega
    case c4 => omega
    case c5 => simp; omega
    · intro v' w1 hown' hgrow _
      have HO : Hid (w1.ownsRow B 9 1 v' (ss ++ keepL s.data.toList).length (vs (ss ++ keepL s.data.toList))) := by
        have e : keepL s.data.toList = [l] := by rw [hk.out, if_neg HE.out]
        show w1.ownsRow B 9 1 v' (ss ++ keepL s.data.toList).length (vs (ss ++ keepL s.data.toList))
        rw [e, vs_app]
        have e2 : (ss ++ [l]).length = ss.length + 1 := by simp
        rw [e2]
        exact hown'
      have HG : Hid (Below B w w1) := ((Below.refl B w).alloc hB _).grown hgrow (by simp; omega) (fun k hk => (hown.lt k hk).1)
      clear hown' hgrow
      go_wp2
      go_ret
      exact ⟨v', rfl, HO.out, HG.out⟩

/-- what the loop of Fields keeps: what has been gathered, and what is left -/
def FRel (B : Nat) (c : UInt8) (l : List UInt8) (w : World) (v0 v : Value) (wr : World) : Prop :=
  ∃ (t : ByteArray) (ss : List (List UInt8)), v0 = .string t ∧ t.size ≤ l.length ∧ ss.length + t.size ≤ l.length ∧ ss ++ fieldsL c t.data.toList = fieldsL c l ∧ wr.ownsRow B 9 1 v ss.length (vs ss) ∧ Below B w wr ∧ B ≤ wr.heap.size

theorem frel_step {B : Nat} {c : UInt8} {l : List UInt8} {w wr w1 : World} {v' : Value} {t : ByteArray} {ss : List (List UInt8)} {k : Nat} (hk : k < t.size)
    (h2 : ss.length + t.size ≤ l.length) (h3 : ss ++ fieldsL c t.data.toList = fieldsL c l) (h5 : Below B w wr) (h6 : B ≤ wr.heap.size)
    (hn : ¬ c ∈ t.data.toList.take k) (h4 : t.data.toList = t.data.toList.take k ++ c :: t.data.toList.drop (k + 1))
    (hO : w1.ownsRow B 9 1 v' (ss ++ keepL (t.extract 0 k).data.toList).length (vs (ss ++ keepL (t.extract 0 k).data.toList))) (hb : Below B wr w1) : FRel B c l w (.string (t.extract (k + 1) t.size)) v' w1 := by
  have e0 : (t.extract 0 k).data.toList = t.data.toList.take k := by rw [Lib.extract_data]; simp
  have hz : (t.extract (k + 1) t.size).size = t.size - (k + 1) := by rw [Lib.size_eq, Lib.extract_to_end, List.length_drop, ← Lib.size_eq]
  rw [e0] at hO
  refine ⟨_, ss ++ keepL (t.data.toList.take k), rfl, by omega, ?_, ?_, hO, h5.trans hb, Nat.le_trans h6 hb.size⟩
  · rw [List.length_append, hz]; have := keepL_len (t.data.toList.take k); omega
  · rw [Lib.extract_to_end, List.append_assoc, ← h3, ← fields_at c _ _ hn, ← h4]
theorem frel_end {B : Nat} {c : UInt8} {l : List UInt8} {w wr w1 : World} {v' : Value} {t : ByteArray} {ss : List (List UInt8)}
    (h3 : ss ++ fieldsL c t.data.toList = fieldsL c l) (h5 : Below B w wr) (hn : ¬ c ∈ t.data.toList)
    (hO : w1.ownsRow B 9 1 v' (ss ++ keepL t.data.toList).length (vs (ss ++ keepL t.data.toList))) (hb : Below B wr w1) : Owned B (fieldsL c l) w (.returned v') w1 := by
  rw [← fields_none c _ hn, h3] at hO
  exact ⟨v', rfl, hO, h5.trans hb⟩

set_option maxHeartbeats 2000000 in
theorem fields_c (s : ByteArray) (c : Int) (w : World) (hs : s.size ≤ 1000) :
    Calls Try.prog 23 #[.string s, .int .u8 c] w (Owned w.heap.size (fieldsL c.toNat.toUInt8 s.data.toList) w) := by
  have hsl := Lib.hid (Lib.size_eq s)
  go_enter Try.func23, Try.ntmps23
  go_wp2
  go_loopw [0, 5] (fun v0 v wr => FRel w.heap.size c.toNat.toUInt8 s.data.toList w v0 v wr) (fun v0 _ _ => (strOf v0).size)
  case atStart => exact ⟨s, [], rfl, by rw [← hsl.out]; omega, by simp [← hsl.out], by simp, World.ownsRow_nil _ _ _ _, Below.refl _ _, by omega⟩
  case round =>
    obtain ⟨t, ss, rfl, h1, h2, h3, h4, h5, h6⟩ := hrel
    have H3 := Lib.hid h3
    have ht : t.size ≤ 1000 := by have := hsl.out; omega
    have hss : ss.length ≤ 1000 := by have := hsl.out; omega
    have htm : t.size ≤ maxLen := by unfold maxLen; omega
    clear h3
    by_cases hi : 0 ≤ Lib.indexByte t.data.toList c.toNat.toUInt8
    · obtain ⟨k, hk1, hk2, hk3, hk4⟩ := idx_split _ _ hi
      rw [hk1] at hi
      rw [← Lib.size_eq] at hk2
      have HI := Lib.hid (idx_c t c wr)
      rw [hk1] at HI
      have H4 := Lib.hid hk4
      have HN := Lib.hid hk3
      clear hk1 hk3 hk4
      have hk0 : ¬ ((k : Int) < 0) := by omega
      have hkl : (k : Int) < (t.size : Int) := by omega
      have hkl2 : (k : Int) + 1 ≤ (t.size : Int) := by omega
      have HO := Lib.hid h4
      clear h4
      go_wp2_with (first
        | (go_at_call 30; refine HI.out.mono ?_; rintro e w' ⟨rfl, rfl⟩)
        | (go_at_call 31; refine (part_c w.heap.size _ ss _ _ ?_ ?_ h6 HO.out).mono ?_; (· simp [ByteArray.size_extract, maxLen]; omega); (· omega); rintro e w' ⟨v', rfl, hO, hb⟩; have HO' := Lib.hid hO; have HB' := Lib.hid hb; clear hO hb))
      go_roundw
      case rel => exact frel_step hk2 h2 H3.out h5 h6 HN.out H4.out HO'.out HB'.out
      case measure => simp [strOf]; omega
    · have HN := Lib.hid (idx_no _ _ hi)
      have hg := Lib.indexByte_ge t.data.toList c.toNat.toUInt8
      have hi1 : Lib.indexByte t.data.toList c.toNat.toUInt8 = -1 := by omega
      have HI := Lib.hid (idx_c t c wr)
      rw [hi1] at HI
      clear hi hg hi1
      have HO := Lib.hid h4
      clear h4
      go_wp2_with (first
        | (go_at_call 30; refine HI.out.mono ?_; rintro e w' ⟨rfl, rfl⟩)
        | (go_at_call 31; refine (part_c w.heap.size _ ss _ _ htm ?_ h6 HO.out).mono ?_; (· omega); rintro e w' ⟨v', rfl, hO, hb⟩; have HO' := Lib.hid hO; have HB' := Lib.hid hb; clear hO hb))
      go_ret
      exact frel_end H3.out h5 HN.out HO'.out HB'.out
end Go.Proofs.Ythepijohllemdaa
