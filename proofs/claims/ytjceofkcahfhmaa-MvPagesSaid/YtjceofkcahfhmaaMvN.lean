/- A store of many versions with any keys: right; no other condition. -/
import Derived.Test.YtjceofkcahfhmaaMvMb
namespace Go.Proofs.Ytjceofkcahfhmaa.Mv
open Go.RowKit Go.Lib Go.Maps
open Go.Proofs.Ytjceofkcahfhmaa.Cn
set_option linter.unusedSimpArgs false
set_option linter.unusedVariables false

/-- the keys that were seen -/
def seenL (l : List ChT) : List Key := l.foldl (fun s x => s.insert x.1.data.toList) []
theorem seenL_snoc {l : List ChT} {j : Nat} (hj : j < l.length) : seenL (l.take (j + 1)) = (seenL (l.take j)).insert l[j].1.data.toList := by
  unfold seenL
  rw [List.take_succ_eq_append_getElem hj, List.foldl_append]; rfl
/-- a set of keys, as a map holds it -/
structure MapS (D : DataW Unit) (s : List Key) : Prop where
  str : ∀ k, Maps.has D (.string k) = decide (k ∈ s)
  oth : ∀ kl, (∀ k, kl ≠ .string k) → Maps.has D kl = false
  nd : s.Nodup
theorem MapS.nil : MapS (.map []) [] := ⟨fun k => rfl, fun kl _ => rfl, List.nodup_nil⟩
theorem MapS.put {D : DataW Unit} {s : List Key} (h : MapS D s) (hm : IsMap D) (k : Key) : MapS (D.put (.string k) sd) (s.insert k) := by
  refine ⟨fun j => ?_, fun kl hk => ?_, ?_⟩
  · by_cases e : j = k
    · subst e
      rw [has_put_same (k := .string j) hm trivial]
      simp
    · rw [has_put_other (fun q => e (by injection q)), h.str]
      simp [List.mem_insert_iff, e]
  · rw [has_put_other (hk k)]; exact h.oth kl hk
  · by_cases hk : k ∈ s
    · rw [List.insert_of_mem hk]; exact h.nd
    · rw [List.insert_of_not_mem hk]; exact List.nodup_cons.2 ⟨hk, h.nd⟩
theorem MapS.size {es : List (Lit × DataW Unit)} {s : List Key} (h : MapS (.map es) s) (hp : es.Pairwise (fun p q => p.1 ≠ q.1)) (hk : ∀ p ∈ es, WideAt.IsKeyLit p.1) : es.length = s.length := by
  have hnd : (es.map (·.1)).Nodup := by
    rw [List.nodup_iff_pairwise_ne, List.pairwise_map]; exact hp
  have hnd2 : (s.map fun k => Lit.string k).Nodup := by
    rw [List.nodup_iff_pairwise_ne, List.pairwise_map]
    exact h.nd.imp fun {a b} hab e => hab (by injection e)
  have hmem : ∀ kl, kl ∈ es.map (·.1) ↔ kl ∈ s.map fun k => Lit.string k := by
    intro kl
    have h1 : kl ∈ es.map (·.1) ↔ Maps.has (.map es) kl = true := by
      rw [has_eq, List.any_eq_true]
      constructor
      · intro hm
        obtain ⟨p, hp1, rfl⟩ := List.mem_map.1 hm
        exact ⟨p, hp1, WideAt.sameKey_self (hk p hp1)⟩
      · rintro ⟨p, hp1, hp2⟩
        exact List.mem_map.2 ⟨p, hp1, WideAt.sameKey_eq hp2⟩
    rw [h1]
    constructor
    · intro hh
      by_cases hs : ∃ k, kl = .string k
      · obtain ⟨k, rfl⟩ := hs
        rw [h.str] at hh
        exact List.mem_map.2 ⟨k, of_decide_eq_true hh, rfl⟩
      · rw [h.oth kl (fun k e => hs ⟨k, e⟩)] at hh; cases hh
    · intro hh
      obtain ⟨k, hk1, rfl⟩ := List.mem_map.1 hh
      rw [h.str]; exact decide_eq_true hk1
  have hlen := ((List.perm_ext_iff_of_nodup hnd hnd2).2 hmem).length_eq
  rw [List.length_map, List.length_map] at hlen
  exact hlen
def SetK (b : Nat) (s : List Key) (w : World) : Prop := ∃ D, w.ownsMap Try.prog 9 setE b (Maps.size D) D ∧ MapS D s
theorem SetK.lt {b : Nat} {s : List Key} {w : World} (h : SetK b s w) : b < w.heap.size := by
  obtain ⟨D, h, _⟩ := h; exact h.lt
theorem SetK.keep {b : Nat} {s : List Key} {w w' : World} (h : SetK b s w) (hb : w'.heap[b]? = w.heap[b]?) : SetK b s w' := by
  obtain ⟨D, h1, h2⟩ := h
  exact ⟨D, own_keep h1 hb, h2⟩
theorem SetK.made (w : World) : SetK w.heap.size [] (w.alloc (.map #[] 0)) := ⟨.map [], World.ownsMap_made w _ _ _, MapS.nil⟩
theorem setk_size {w : World} {b n : Nat} {D : DataW Unit} {s : List Key} (h : w.ownsMap Try.prog 9 setE b n D) (hm : MapS D s) : Maps.size D = s.length := by
  obtain ⟨es, rfl, hp, hk⟩ := h.entries law
  exact hm.size hp hk
theorem SetK.len {b : Nat} {s : List Key} {w : World} (h : SetK b s w) (ty : TypeId) : (Builtin.len_ #[102] ty #[.map (some b)]).run Try.prog w = .ok (.int .i64 (s.length : Nat)) w := by
  obtain ⟨D, h1, h2⟩ := h
  rw [h1.len Try.underlying102 ty, setk_size h1 h2]
theorem SetK.store {b : Nat} {s : List Key} {w : World} (h : SetK b s w) {key : ByteArray} (hk : key.size ≤ maxLen) (hn : s.length < maxLen) :
    ∃ w', (Instr.mapUpdate 102 (.map (some b)) (.string key) (.agg #[])).run Try.prog w = .ok () w' ∧ SetK b (s.insert key.data.toList) w' ∧ w.grownBy w' (some b) := by
  obtain ⟨D, h1, h2⟩ := h
  obtain ⟨w', hr, h3, h4⟩ := h1.update law Try.underlying102 (by rw [setk_size h1 h2]; exact hn) (keyS hk) setE_mk
  refine ⟨w', hr, ⟨_, ?_, h2.put h1.isMap _⟩, h4⟩
  obtain ⟨es, clock, hb, F, hs, e⟩ := h3
  exact ⟨es, clock, hb, F, by rw [e, Maps.size_eq, length_sorted]; simp, e⟩
/-- may a change be made, by itself? -/
def okC (f : Key → Option Chn) (rev : Int) (x : ChT) : Bool := !(x.1.data.toList == []) && (!x.2.2 || atB (vrs f x.1.data.toList) rev)
def rightB (f : Key → Option Chn) (rev : Int) (l : List ChT) : Bool := l.all (okC f rev) && (decide (0 < l.length) && decide ((seenL l).length = l.length))
theorem mk_mapn (w : World) (n : Nat) : (Instr.makeMap 102 (some (.int .i64 (n : Int)))).run Try.prog w = .ok (.map (some w.heap.size)) (w.alloc (.map #[] 0)) := by
  simp [Instr.makeMap, run_underlying Try.underlying102, asInt, asIntOf, Result.andThen]
theorem seen_le (l : List ChT) : (seenL l).length ≤ l.length := by
  have h : ∀ (l : List ChT) (s : List Key), (l.foldl (fun s x => s.insert x.1.data.toList) s).length ≤ s.length + l.length := by
    intro l
    induction l with
    | nil => intro s; exact Nat.le_refl _
    | cons x l ih =>
      intro s
      have h1 := ih (s.insert x.1.data.toList)
      have h2 : (s.insert x.1.data.toList).length ≤ s.length + 1 := by
        by_cases hk : x.1.data.toList ∈ s
        · rw [List.insert_of_mem hk]; omega
        · rw [List.insert_of_not_mem hk]; simp
      rw [List.foldl_cons, List.length_cons]; omega
  have := h l []
  simpa [seenL] using this
set_option maxRecDepth 100000 in
set_option maxHeartbeats 4000000 in
theorem right_c {B c N : Nat} {mb : Option Nat} {f : Key → Option Chn} {l0 l9 rev fl ks vs : Int} {od : Value} {w : World} (h : IsMv B c N mb f l0 l9 rev fl ks vs od w) (hN : N ≤ 1000000) (ao : Option Addr) (cap : Nat) (l : List ChT) (hl : RdC (.slice ao l.length cap) l w) (hm : l.length ≤ 1000) (hkk : ∀ x ∈ l, x.1.size ≤ maxLen) :
    Calls Try.prog 34 #[.pointer (some ⟨c, 0, none⟩), .slice ao l.length cap] w fun e w' => e = .returned (.bool (rightB f rev l)) ∧ Below w.heap.size w w' := by
  obtain ⟨W0, hW0⟩ : ∃ W0, W0 = w.alloc (.map #[] 0) := ⟨_, rfl⟩
  have HB0 : Hid (Below w.heap.size w W0) := by rw [hW0]; exact Lib.hid ((Below.refl _ _).alloc (Nat.le_refl _) _)
  have HM0 : Hid (SetK w.heap.size [] W0) := by rw [hW0]; exact Lib.hid (SetK.made w)
  have H := Lib.hid h
  have HLL := Lib.hid hl
  have HKK := Lib.hid hkk
  have HW0 := Lib.hid hW0
  obtain ⟨n, hn⟩ : ∃ n, n = l.length := ⟨_, rfl⟩
  have HN : Hid (l.length = n) := hn.symm
  rw [← hn] at HLL hm ⊢
  have hmk := mk_mapn w n
  clear h hl hkk hn hW0
  go_enter Try.func34, Try.ntmps34
  go_upto_region 2 with (fail)
  rw [← HW0.out]
  go_wp2
  go_loopw [13] (fun iv wr => ∃ j : Nat, j ≤ n ∧ iv = .int .i64 (j : Int) ∧ Hid ((l.take j).all (okC f rev) = true) ∧ Hid (SetK w.heap.size (seenL (l.take j)) wr) ∧ Hid (Below w.heap.size w wr)) (fun iv _ => n - (intOf iv).toNat)
  case atStart => exact ⟨0, by omega, rfl, Lib.hid (by simp), HM0, HB0⟩
  case round =>
    obtain ⟨j, hj, rfl, HOK, HM, HB⟩ := hrel
    have hwz : w.heap.size < wr.heap.size := HM.out.lt
    by_cases hlt : j < n
    · have HX := Lib.hid (show j < l.length by rw [HN.out]; exact hlt)
      obtain ⟨g, rfl, hg, hat⟩ := rdc_at (HLL.out.go HB.out) (by have := HX.out; omega)
      obtain ⟨a0, a1, a2⟩ := hat j HX.out
      have hj0 : (0 : Int) ≤ (j : Int) := by omega
      have hjl : (j : Int) < (n : Int) := by omega
      have HSN := Lib.hid (seenL_snoc HX.out)
      have HAN : Hid ((l.take (j + 1)).all (okC f rev) = okC f rev (l[j]'HX.out)) := by
        show _ = _
        rw [List.take_succ_eq_append_getElem HX.out, List.all_append, HOK.out]; simp
      have HNO : Hid (okC f rev (l[j]'HX.out) = false → rightB f rev l = false) := fun e => by
        unfold rightB
        have : l.all (okC f rev) = false := by
          rw [Bool.eq_false_iff]
          intro ha
          rw [List.all_eq_true] at ha
          have := ha _ (List.getElem_mem HX.out)
          rw [e] at this; cases this
        rw [this]; rfl
      have hsz := HKK.out _ (List.getElem_mem HX.out)
      have hsl : (seenL (l.take j)).length < maxLen := by
        have h1 := seen_le (l.take j)
        rw [List.length_take] at h1
        unfold maxLen; omega
      generalize seenL (l.take j) = sj at HSN HM hsl
      obtain ⟨⟨kx, vx, gx⟩, hx⟩ : ∃ x : ChT, l[j]'HX.out = x := ⟨_, rfl⟩
      rw [hx] at a0 a1 a2 HSN hsz HAN HNO
      dsimp only at a0 a1 a2 hsz HSN
      have HKC : Hid (okC f rev (kx, vx, gx) = (!(kx.data.toList == []) && (!gx || atB (vrs f kx.data.toList) rev))) := rfl
      obtain ⟨W1, hW1, hk1, hb1⟩ := Cn.new3 wr (.string kx) (.string vx) (.bool gx) 80
      have HW1 := Lib.hid hW1
      have HB1 := Lib.hid (HB.out.trans (hb1.mono HB.out.size))
      obtain ⟨x0, x1, x2⟩ := Cn.cells3 hk1
      have HX1 := Lib.hid hk1
      have HM1 := Lib.hid (HM.out.keep (hb1.block _ hwz))
      have HHW := Lib.hid (has_c (H.out.go HB1.out) hN hsz)
      have hz1 : wr.heap.size < W1.heap.size := (Array.getElem?_eq_some_iff.1 hk1).1
      have key_e : kx.toList.isEmpty = (kx.data.toList == []) := by rw [Lib.toList_data]; cases kx.data.toList <;> rfl
      clear hat hx hW1 hk1 hb1 hg
      cases hke : (kx.data.toList == []) with
      | true =>
        rw [hke] at key_e HKC
        have HF := Lib.hid (HNO.out HKC.out)
        clear hke
        go_upto_region 5 with (fail)
        rw [← HW1.out]
        go_wp2
        go_ret
        exact ⟨by rw [HF.out]; rfl, HB1.out⟩
      | false =>
        rw [hke] at key_e HKC
        clear hke
        cases gx with
        | false =>
          have HMs := HM1
          have HBs := HB1
          obtain ⟨W5, hu, hm5, hg5⟩ := HMs.out.store hsz hsl
          have HM5 := Lib.hid hm5
          have HB5 : Hid (Below w.heap.size w W5) := Lib.hid ⟨hg5.os.trans HBs.out.os, hg5.tape.trans HBs.out.tape, hg5.output.trans HBs.out.output, Nat.le_trans HBs.out.size hg5.size, fun k hk => (hg5.block k (Nat.lt_of_lt_of_le hk HBs.out.size) (fun e => by injection e with e; omega)).trans (HBs.out.block k hk)⟩
          clear hm5 hg5
          have HAA : Hid ((l.take (j + 1)).all (okC f rev) = true) := by show _ = _; rw [HAN.out]; exact HKC.out
          go_upto_region 5 with (fail)
          rw [← HW1.out]
          go_wp2
          go_roundw
          case rel => exact ⟨j + 1, by omega, by go_num, HAA, by rw [HSN.out]; exact HM5, HB5⟩
          case measure => simp [intOf]; omega
        | true =>
          cases hb : atB (vrs f kx.data.toList) rev with
          | false =>
            rw [hb] at HHW HKC
            have HF := Lib.hid (HNO.out HKC.out)
            clear hb
            go_upto_region 5 with (fail)
            rw [← HW1.out]
            go_wp2_with (go_at_call 50; (with_reducible refine HHW.out.mono ?_); rintro e w2 ⟨rfl, hb2⟩; have HB2 := Lib.hid (HB1.out.trans (hb2.mono HB1.out.size)); clear hb2)
            go_ret
            exact ⟨by rw [HF.out]; rfl, HB2.out⟩
          | true =>
            rw [hb] at HHW HKC
            clear hb
            have HAA : Hid ((l.take (j + 1)).all (okC f rev) = true) := by show _ = _; rw [HAN.out]; exact HKC.out
            go_upto_region 5 with (fail)
            rw [← HW1.out]
            go_upto_region 7 with (go_at_call 50; (with_reducible refine HHW.out.mono ?_); rintro e w2 ⟨rfl, hb2⟩; have HBb := Lib.hid hb2; have HBs := Lib.hid (HB1.out.trans (hb2.mono HB1.out.size)); clear hb2)
            have HMs := Lib.hid (HM1.out.keep (HBb.out.block _ (by omega)))
            obtain ⟨y0, y1, y2⟩ := Cn.cells3 ((HBb.out.block _ hz1).trans HX1.out)
            obtain ⟨W5, hu, hm5, hg5⟩ := HMs.out.store hsz hsl
            have HM5 := Lib.hid hm5
            have HB5 : Hid (Below w.heap.size w W5) := Lib.hid ⟨hg5.os.trans HBs.out.os, hg5.tape.trans HBs.out.tape, hg5.output.trans HBs.out.output, Nat.le_trans HBs.out.size hg5.size, fun k hk => (hg5.block k (Nat.lt_of_lt_of_le hk HBs.out.size) (fun e => by injection e with e; omega)).trans (HBs.out.block k hk)⟩
            clear hm5 hg5
            go_wp2
            go_roundw
            case rel => exact ⟨j + 1, by omega, by go_num, HAA, by rw [HSN.out]; exact HM5, HB5⟩
            case measure => simp [intOf]; omega
    · have hjl : ¬ (j : Int) < (n : Int) := by omega
      have hjn : j = n := by omega
      have htk : l.take j = l := by rw [hjn, ← HN.out]; exact List.take_of_length_le (Nat.le_refl _)
      rw [htk] at HM HOK
      have hlen := fun ty => HM.out.len ty
      have HR : Hid (rightB f rev l = (decide (0 < n) && decide ((seenL l).length = n))) := by
        show _ = _
        unfold rightB
        rw [HOK.out, HN.out]; rfl
      by_cases h0 : 0 < n
      · have h0' : (0 : Int) < (n : Int) := by omega
        have h0'' : (n : Int) > 0 := h0'
        have he : ((((seenL l).length : Nat) : Int) == (n : Int)) = decide ((seenL l).length = n) := by
          by_cases h : (seenL l).length = n
          · rw [h]; simp
          · rw [decide_eq_false h]; simp; omega
        go_wp2
        go_ret
        refine ⟨?_, HB.out⟩
        rw [HR.out, decide_eq_true h0, Bool.true_and]
        rfl
      · have h0' : ¬ (n : Int) > 0 := by omega
        go_wp2
        go_ret
        refine ⟨?_, HB.out⟩
        rw [HR.out, decide_eq_false h0]; rfl
end Go.Proofs.Ytjceofkcahfhmaa.Mv
