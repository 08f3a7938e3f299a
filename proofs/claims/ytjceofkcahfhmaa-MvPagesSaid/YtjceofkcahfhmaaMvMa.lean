/- Contracts and plain mathematics of some packages' functions, laid together; conditions as each one says. -/
import Derived.Test.YtjceofkcahfhmaaCnMa
import Derived.Maps.OwnSet
import Derived.Maps.RangeWalk
import Derived.Deep.AppendLies
import Derived.Deep.RegionLaw
import Derived.Deep.QuietTactic
import Derived.BigQuiet
import Derived.Deep.Cut
import Derived.Deep.RegionWith
import Derived.Deep.RegionHeld3
import Derived.StringKeys
import Derived.Deep.DeepCutAuto
namespace Go.Proofs.Ytjceofkcahfhmaa.Mv
open Go.RowKit Go.Lib Go.Maps
open Go.Proofs.Ytjceofkcahfhmaa.Cn
set_option linter.unusedSimpArgs false
set_option linter.unusedVariables false

abbrev kb : ByteArray := ⟨#[97]⟩
abbrev kl : Lit := .string [97]
abbrev obS (rev fl : Int) (mp : Value) (ks vs : Int) : Obj := .cells #[.int .i64 3, .int .i64 9, .int .i64 rev, .int .i64 fl, mp, .int .i64 ks, .int .i64 vs, .slice none 0 0] 54
theorem cells8 {w : World} {g : Nat} {a0 a1 a2 a3 a4 a5 a6 a7 : Value} {t : TypeId} (h : w.heap[g]? = some (.cells #[a0, a1, a2, a3, a4, a5, a6, a7] t (0, 0))) : w.cell? ⟨g, 0, none⟩ = some a0 ∧ w.cell? ⟨g, 1, none⟩ = some a1 ∧ w.cell? ⟨g, 2, none⟩ = some a2 ∧ w.cell? ⟨g, 3, none⟩ = some a3 ∧ w.cell? ⟨g, 4, none⟩ = some a4 ∧ w.cell? ⟨g, 5, none⟩ = some a5 ∧ w.cell? ⟨g, 6, none⟩ = some a6 ∧ w.cell? ⟨g, 7, none⟩ = some a7 :=
  ⟨cell_of_row _ _ 0 _ _ _ h, cell_of_row _ _ 1 _ _ _ h, cell_of_row _ _ 2 _ _ _ h, cell_of_row _ _ 3 _ _ _ h, cell_of_row _ _ 4 _ _ _ h, cell_of_row _ _ 5 _ _ _ h, cell_of_row _ _ 6 _ _ _ h, cell_of_row _ _ 7 _ _ _ h⟩
theorem bdr (W : World) : Below W.heap.size W W.drew := (Below.refl _ _).drew
theorem btr {a b d : World} (h : Below a.heap.size a b) (k : Below b.heap.size b d) : Below a.heap.size a d := h.trans (k.mono h.size)
/-- how a pointer to a chain reads in the map -/
def pd (c : Int) : DataW Unit := .lit (.int .i64 c)
def ptrE : Value → Option (DataW Unit × List MemPlace)
  | .pointer none => some (pd (-1), [])
  | .pointer (some a) => if a = ⟨a.block, 0, none⟩ then some (pd (a.block : Int), []) else none
  | _ => none
theorem ptrE_nil : ptrE (.pointer none) = some (pd (-1), []) := rfl
theorem ptrE_mk (c : Nat) : ptrE (.pointer (some ⟨c, 0, none⟩)) = some (pd (c : Int), []) := by unfold ptrE; simp
theorem ptrE_inv {v : Value} {c : Nat} {ps : List MemPlace} (h : ptrE v = some (pd (c : Int), ps)) : v = .pointer (some ⟨c, 0, none⟩) := by
  unfold ptrE at h
  split at h
  · unfold pd at h
    injection h with h; injection h with h _; injection h with h; injection h with _ h; omega
  · rename_i a
    split at h
    · rename_i e
      unfold pd at h
      injection h with h; injection h with h _; injection h with h; injection h with _ h
      have : a.block = c := by omega
      rw [e, this]
    · cases h
  · cases h
/-- the map with the one key -/
def dOne (c : Nat) : DataW Unit := (DataW.map []).put kl (pd (c : Int))
def MapP (b c : Nat) (w : World) : Prop := w.ownsMap Try.prog 9 ptrE b 1 (dOne c)
theorem MapP.lt {b c : Nat} {w : World} (h : MapP b c w) : b < w.heap.size := World.ownsMap.lt h
theorem MapP.keep {b c : Nat} {w w' : World} (h : MapP b c w) (hb : w'.heap[b]? = w.heap[b]?) : MapP b c w' := by
  obtain ⟨es, clock, h1, h2⟩ := h
  exact ⟨es, clock, hb.trans h1, h2⟩
theorem law : Keyed Try.prog 9 := string_keyed Try.underlying9
theorem keyA : keyOf Try.prog 9 (.string kb) = some kl := Go.WideMaps.keyOf_string_mk Try.underlying9 (by decide)
theorem zeroP (w : World) : (zeroValue 77).run Try.prog w = .ok (.pointer none) w := Try.zeroValue77 w
theorem MapP.look {b c : Nat} {w : World} (h : MapP b c w) : (Instr.lookup 52 (.map (some b)) (.string kb) false).run Try.prog w = .ok (.pointer (some ⟨c, 0, none⟩)) w := by
  obtain ⟨v, ps, hr, hv⟩ := World.ownsMap.lookup h law Try.underlying52 (zeroP w) ptrE_nil keyA
  have e : (dOne c).atKey kl (pd (-1)) = pd (c : Int) := rfl
  rw [e] at hv
  rw [hr, ptrE_inv hv]
theorem look0 (w : World) : (Instr.lookup 52 (.map none) (.string kb) false).run Try.prog w = .ok (.pointer none) w :=
  Maps.look_nil false law Try.underlying52 (zeroP w) keyA
theorem map_new {w : World} {b c : Nat} (h : w.ownsMap Try.prog 9 ptrE b 0 (.map [])) : ∃ w', (Instr.mapUpdate 52 (.map (some b)) (.string kb) (.pointer (some ⟨c, 0, none⟩))).run Try.prog w = .ok () w' ∧ MapP b c w' ∧ w.grownBy w' (some b) :=
  World.ownsMap.update h law Try.underlying52 (by decide) keyA (ptrE_mk c)
/-- one with the one key: store c, map b, chain d -/
structure S1 (B c b d N : Nat) (gb : Option Nat) (l : List Ver) (rev fl vs : Int) (w : World) : Prop where
  hs : w.heap[c]? = some (obS rev fl (.map (some b)) 1 vs)
  hm : MapP b d w
  hc : IsCh B d N gb l w
  cb : c ≠ b
  cd : c ≠ d
  bd : b ≠ d
  gc : gb ≠ some c
  gb' : gb ≠ some b
  asc : Asc l
  lo : B ≤ c ∧ B ≤ b ∧ B ≤ d
theorem S1.kept {B c b d N : Nat} {gb : Option Nat} {l : List Ver} {rev fl vs : Int} {w w' : World} (h : S1 B c b d N gb l rev fl vs w) (hb : Below w.heap.size w w') : S1 B c b d N gb l rev fl vs w' :=
  ⟨(hb.block _ (Array.getElem?_eq_some_iff.1 h.hs).1).trans h.hs, h.hm.keep (hb.block _ h.hm.lt), h.hc.go hb, h.cb, h.cd, h.bd, h.gc, h.gb', h.asc, h.lo⟩
abbrev obZ : Obj := .cells #[.int .i64 0, .string ⟨#[]⟩, .bool false] 75
theorem bel_set3 {B r : Nat} (W : World) (h : B ≤ r) (x y z : Value) : Below B W (((W.setCell ⟨r, 0, none⟩ x).setCell ⟨r, 1, none⟩ y).setCell ⟨r, 2, none⟩ z) := by
  refine ⟨rfl, rfl, rfl, by simp [World.setCell], fun k hk => ?_⟩
  have hn : k ≠ r := by omega
  rw [Below.heap_setCell _ _ _ _ hn, Below.heap_setCell _ _ _ _ hn, Below.heap_setCell _ _ _ _ hn]
set_option maxRecDepth 100000 in
set_option maxHeartbeats 4000000 in
theorem has_g (c : Nat) (mp pv : Value) (rev fl ks vs r : Int) (t : ByteArray) (g b : Bool) (w : World) (h : w.heap[c]? = some (obS rev fl mp ks vs))
    (HL : Hid (∀ V, Below w.heap.size w V → (Instr.lookup 52 mp (.string kb) false).run Try.prog V = .ok pv V))
    (HA : Hid (∀ V, Below w.heap.size w V → Calls Try.prog 31 #[pv, .int .i64 rev] V fun e w' => e = .returned (.tuple #[.agg #[.int .i64 r, .string t, .bool g], .bool b]) ∧ Below V.heap.size V w')) :
    Calls Try.prog 50 #[.pointer (some ⟨c, 0, none⟩), .string kb] w fun e w' => e = .returned (.bool b) ∧ Below w.heap.size w w' := by
  obtain ⟨W1, hW1, hk1, hb1⟩ := new3 w (.int .i64 0) (.string ⟨#[]⟩) (.bool false) 75
  have hcl : c < w.heap.size := (Array.getElem?_eq_some_iff.1 h).1
  have hz1 : w.heap.size < W1.heap.size := (Array.getElem?_eq_some_iff.1 hk1).1
  have HSK : Hid (∀ V : World, Below w.heap.size w V → V.cell? ⟨c, 4, none⟩ = some mp ∧ V.cell? ⟨c, 2, none⟩ = some (.int .i64 rev)) := fun V hV => by
    have h := (hV.block c hcl).trans h
    exact ⟨cell_of_row _ _ 4 _ _ _ h, cell_of_row _ _ 2 _ _ _ h⟩
  obtain ⟨c4, c2⟩ := HSK.out w (Below.refl _ _)
  have HKA := Lib.hid (HSK.out w.drew (bdr w))
  have HKB := Lib.hid (HSK.out W1.drew (btr hb1 (bdr W1)))
  rw [hW1] at HKB
  have HK1 := Lib.hid hk1
  have HB1 := Lib.hid hb1
  have HW1 := Lib.hid hW1
  have l0 := HL.out w.drew (bdr w)
  have l1 := HL.out W1.drew (btr hb1 (bdr W1))
  rw [hW1] at l1
  clear h hW1 hk1 hb1
  go_enter Try.func50, Try.ntmps50
  go_upto_region 1 with (fail)
  go_region_held3 (fun V => V.cell? ⟨c, 4, none⟩ = some mp ∧ V.cell? ⟨c, 2, none⟩ = some (.int .i64 rev))
    (first | (with_reducible exact HKA.out) | (with_reducible exact HKB.out) | (with_reducible exact HK3.out) | (with_reducible exact HK3a.out) | (with_reducible exact HK3r.out) | (with_reducible exact HK3s.out) | (with_reducible exact HK4.out) | (with_reducible exact HK4s.out))
    (first
      | (go_at_call 31; (with_reducible refine (HA.out w.drew (bdr w)).mono ?_); rintro e w3 ⟨rfl, hb3⟩; have hb3' : Below w.heap.size w w3 := ⟨hb3.os, hb3.tape, hb3.output, hb3.size, hb3.block⟩; have HB3 := Lib.hid hb3'; have hs3 := hb3'.size; have HK3 := Lib.hid (HSK.out w3 hb3'); have HK3a := Lib.hid (HSK.out (w3.alloc obZ) (hb3'.alloc hb3'.size _)); have HK3r := Lib.hid (HSK.out (w3.alloc (.cells #[.int .i64 r, .string t, .bool g] 75)) (hb3'.alloc hb3'.size _)); have HK3s := Lib.hid (HSK.out _ ((hb3'.alloc hb3'.size obZ).trans (bel_set3 (B := w.heap.size) (r := w3.heap.size) (w3.alloc obZ) hb3'.size (.int .i64 r) (.string t) (.bool g)))); clear hb3 hb3')
      | (go_at_call 31; rw [← HW1.out]; (with_reducible refine (HA.out W1.drew (btr HB1.out (bdr W1))).mono ?_); rintro e w4 ⟨rfl, hb4⟩; have hb4' : Below W1.heap.size W1 w4 := ⟨hb4.os, hb4.tape, hb4.output, hb4.size, hb4.block⟩; have hb04 : Below w.heap.size w w4 := btr HB1.out hb4'; have HN4 : Hid (w4.heap[w.heap.size]? = some obZ) := (hb4'.block _ hz1).trans HK1.out; have HB4 := Lib.hid hb04; have n0 := cell_of_row _ _ 0 _ _ _ HN4.out; have n1 := cell_of_row _ _ 1 _ _ _ HN4.out; have n2 := cell_of_row _ _ 2 _ _ _ HN4.out; have f0 := frz HN4.out 0; have f1 := frz HN4.out 1; have f2 := frz HN4.out 2; have HK4 := Lib.hid (HSK.out w4 hb04); have HK4s := Lib.hid (HSK.out _ (hb04.trans (bel_set3 (B := w.heap.size) (r := w.heap.size) w4 (Nat.le_refl _) (.int .i64 r) (.string t) (.bool g)))); clear hb4 hb4' hb04))
  all_goals
    first
      | (have HBX := Lib.hid (HB3.out.alloc HB3.out.size (.cells #[.int .i64 r, .string t, .bool g] 75)); go_wp2; go_ret; exact ⟨rfl, HBX.out⟩)
      | (have HBX := Lib.hid (HB4.out.trans (bel_set3 (B := w.heap.size) (r := w.heap.size) w4 (Nat.le_refl _) (.int .i64 r) (.string t) (.bool g))); go_wp2; go_ret; exact ⟨rfl, HBX.out⟩)
theorem has_0 (c : Nat) (rev fl ks vs : Int) (w : World) (h : w.heap[c]? = some (obS rev fl (.map none) ks vs)) : Calls Try.prog 50 #[.pointer (some ⟨c, 0, none⟩), .string kb] w fun e w' => e = .returned (.bool false) ∧ Below w.heap.size w w' :=
  has_g c (.map none) (.pointer none) rev fl ks vs 0 ⟨#[]⟩ false false w h (Lib.hid fun V _ => look0 V) (Lib.hid fun V _ => At_nil rev V)
theorem has_1 {B c b d N : Nat} {gb : Option Nat} {l : List Ver} {rev fl vs : Int} {w : World} (h : S1 B c b d N gb l rev fl vs w) (hN : N ≤ 1000000) : Calls Try.prog 50 #[.pointer (some ⟨c, 0, none⟩), .string kb] w fun e w' => e = .returned (.bool (atB l rev)) ∧ Below w.heap.size w w' :=
  has_g c (.map (some b)) (.pointer (some ⟨d, 0, none⟩)) rev fl 1 vs (atV l rev).1 (atV l rev).2.1 (atV l rev).2.2 (atB l rev) w h.hs (Lib.hid fun V hV => (h.kept hV).hm.look) (Lib.hid fun V hV => At_c B d N gb l rev V (h.kept hV).hc hN h.asc)
end Go.Proofs.Ytjceofkcahfhmaa.Mv
namespace Go.Proofs.Ytjceofkcahfhmaa.Mv
open Go.RowKit Go.Lib Go.Maps
open Go.Proofs.Ytjceofkcahfhmaa.Cn
set_option linter.unusedSimpArgs false
set_option linter.unusedVariables false

abbrev obC (v : ByteArray) : Obj := .cells #[.string kb, .string v, .bool false] 80
def sd : DataW Unit := .agg []
def setE : Value → Option (DataW Unit × List MemPlace)
  | .agg cs => if cs.size = 0 then some (sd, []) else none
  | _ => none
theorem setE_mk : setE (.agg #[]) = some (sd, []) := rfl
def dS : Nat → DataW Unit
  | 0 => .map []
  | _ => (DataW.map []).put kl sd
theorem set_put {w : World} {b : Nat} (h : w.ownsMap Try.prog 9 setE b 0 (dS 0)) : ∃ w', (Instr.mapUpdate 102 (.map (some b)) (.string kb) (.agg #[])).run Try.prog w = .ok () w' ∧ w'.ownsMap Try.prog 9 setE b 1 (dS 1) ∧ w.grownBy w' (some b) :=
  World.ownsMap.update h law Try.underlying102 (by decide) keyA setE_mk
theorem own_keep {w w' : World} {b n : Nat} {R : Value → Option (DataW Unit × List MemPlace)} {D : DataW Unit} (h : w.ownsMap Try.prog 9 R b n D) (hb : w'.heap[b]? = w.heap[b]?) : w'.ownsMap Try.prog 9 R b n D := by
  obtain ⟨es, clock, h1, h2⟩ := h
  exact ⟨es, clock, hb.trans h1, h2⟩
theorem mk_map (w : World) : (Instr.makeMap 102 (some (.int .i64 1))).run Try.prog w = .ok (.map (some w.heap.size)) (w.alloc (.map #[] 0)) := by simp [Instr.makeMap, run_underlying Try.underlying102, asInt, asIntOf, Result.andThen]
theorem key_ne : (kb.toList == (⟨#[]⟩ : ByteArray).toList) = false := by rw [Lib.toList_data, Lib.toList_data]; decide
set_option maxRecDepth 100000 in
set_option maxHeartbeats 4000000 in
theorem right_1 (c a : Nat) (v : ByteArray) (w : World) (h : w.heap[a]? = some (obC v)) : Calls Try.prog 34 #[.pointer (some ⟨c, 0, none⟩), .slice (some ⟨a, 0, none⟩) 1 1] w fun e w' => e = .returned (.bool true) ∧ Below w.heap.size w w' := by
  obtain ⟨W0, hW0⟩ : ∃ W0, W0 = w.alloc (.map #[] 0) := ⟨_, rfl⟩
  have HB0 : Hid (Below w.heap.size w W0) := by rw [hW0]; exact Lib.hid ((Below.refl _ _).alloc (Nat.le_refl _) _)
  have HM0 : Hid (W0.ownsMap Try.prog 9 setE w.heap.size 0 (dS 0)) := by rw [hW0]; exact Lib.hid (World.ownsMap_made w _ _ _)
  have hal : a < w.heap.size := (Array.getElem?_eq_some_iff.1 h).1
  have HA := Lib.hid h
  have HW0 := Lib.hid hW0
  have hmk := mk_map w
  clear hW0 h
  go_enter Try.func34, Try.ntmps34
  go_upto_region 2 with (fail)
  rw [← HW0.out]
  go_wp2
  go_loopw [13] (fun iv wr => ∃ j : Nat, j ≤ 1 ∧ iv = .int .i64 (j : Int) ∧ Hid (wr.ownsMap Try.prog 9 setE w.heap.size j (dS j)) ∧ Hid (Below w.heap.size w wr)) (fun iv _ => 1 - (intOf iv).toNat)
  case atStart => exact ⟨0, by omega, rfl, HM0, HB0⟩
  case round =>
    obtain ⟨j, hj, rfl, HM, HB⟩ := hrel
    have hwz : w.heap.size < wr.heap.size := HM.out.lt
    by_cases hj0 : j = 0
    · subst hj0
      have HAr := Lib.hid ((HB.out.block a hal).trans HA.out)
      obtain ⟨a0, a1, a2⟩ := Cn.cells3 HAr.out
      obtain ⟨W1, hW1, hk1, hb1⟩ := Cn.new3 wr (.string kb) (.string v) (.bool false) 80
      have HW1 := Lib.hid hW1
      obtain ⟨x0, x1, x2⟩ := Cn.cells3 hk1
      have hm1 := own_keep HM.out (hb1.block _ hwz)
      obtain ⟨W2, hu, hm2, hg2⟩ := set_put hm1
      have HM2 := Lib.hid hm2
      have HB2 : Hid (Below w.heap.size w W2) := by
        have h1 := HB.out.trans (hb1.mono HB.out.size)
        exact ⟨hg2.os.trans h1.os, hg2.tape.trans h1.tape, hg2.output.trans h1.output, Nat.le_trans h1.size hg2.size, fun k hk => (hg2.block k (by have := h1.size; omega) (fun e => by injection e with e; omega)).trans (h1.block k hk)⟩
      have kn := key_ne
      clear hW1 hk1 hb1 hm1 hm2 hg2
      go_upto_region 5 with (fail)
      rw [← HW1.out]
      go_wp2
      go_roundw
      case rel => exact ⟨1, by omega, by go_num, HM2, HB2⟩
      case measure => simp [intOf]
    · obtain rfl : j = 1 := by omega
      have hlen := fun ty => World.ownsMap.len HM.out Try.underlying102 ty
      rw [show Maps.size (dS 1) = 1 from rfl] at hlen
      go_wp2
      go_ret
      exact ⟨rfl, HB.out⟩
end Go.Proofs.Ytjceofkcahfhmaa.Mv
namespace Go.Proofs.Ytjceofkcahfhmaa.Mv
open Go.RowKit Go.Lib Go.Maps
open Go.Proofs.Ytjceofkcahfhmaa.Cn
set_option linter.unusedSimpArgs false
set_option linter.unusedVariables false

set_option maxRecDepth 100000 in
set_option maxHeartbeats 4000000 in
theorem keys_g (c a : Nat) (v : ByteArray) (rev fl ks vs r : Int) (mp : Value) (hb : Bool) (w : World) (h : w.heap[c]? = some (obS rev fl mp ks vs)) (ha : w.heap[a]? = some (obC v)) (hk : 0 ≤ ks ∧ ks ≤ 10) (hr : r = if hb then ks else ks + 1)
    (HH : Hid (∀ V, Below w.heap.size w V → Calls Try.prog 50 #[.pointer (some ⟨c, 0, none⟩), .string kb] V fun e w' => e = .returned (.bool hb) ∧ Below V.heap.size V w')) :
    Calls Try.prog 35 #[.pointer (some ⟨c, 0, none⟩), .slice (some ⟨a, 0, none⟩) 1 1] w fun e w' => e = .returned (.int .i64 r) ∧ Below w.heap.size w w' := by
  obtain ⟨c0, c1, c2, c3, c4, c5, c6, c7⟩ := cells8 h
  have hal : a < w.heap.size := (Array.getElem?_eq_some_iff.1 ha).1
  have HA := Lib.hid ha
  have hq : IntKind.i64.wrap (ks + 1) = ks + 1 := by rw [IntKind.wrap_i64]; omega
  clear h ha
  go_enter Try.func35, Try.ntmps35
  go_wp2
  go_loopw [14, 5] (fun iv nv wr => ∃ j : Nat, j ≤ 1 ∧ iv = .int .i64 (j : Int) ∧ nv = .int .i64 (if j = 0 then ks else r) ∧ Hid (Below w.heap.size w wr)) (fun iv _ _ => 1 - (intOf iv).toNat)
  case atStart => exact ⟨0, by omega, rfl, rfl, Lib.hid (Below.refl _ _)⟩
  case round =>
    obtain ⟨j, hj, rfl, rfl, HB⟩ := hrel
    clear c0 c1 c2 c3 c4 c5 c6 c7
    by_cases hj0 : j = 0
    · subst hj0
      rw [if_pos rfl]
      have HAr := Lib.hid ((HB.out.block a hal).trans HA.out)
      obtain ⟨a0, a1, a2⟩ := Cn.cells3 HAr.out
      obtain ⟨W1, hW1, hk1, hb1⟩ := Cn.new3 wr (.string kb) (.string v) (.bool false) 80
      have HW1 := Lib.hid hW1
      have HB1 := Lib.hid (HB.out.trans (hb1.mono HB.out.size))
      obtain ⟨x0, x1, x2⟩ := Cn.cells3 hk1
      have HHW := Lib.hid (HH.out W1 HB1.out)
      clear hW1 hk1 hb1
      cases hb with
      | true =>
        simp only [if_true] at hr
        subst hr
        go_upto_region 5 with (fail)
        rw [← HW1.out]
        go_wp2_with (go_at_call 50; (with_reducible refine HHW.out.mono ?_); rintro e w2 ⟨rfl, hb2⟩; have HB2 := Lib.hid (HB1.out.trans (hb2.mono HB1.out.size)); clear hb2)
        go_roundw
        case rel => exact ⟨1, by omega, by go_num, by simp, HB2⟩
        case measure => simp [intOf]
      | false =>
        simp only [Bool.false_eq_true, if_false] at hr
        subst hr
        go_upto_region 5 with (fail)
        rw [← HW1.out]
        go_wp2_with (go_at_call 50; (with_reducible refine HHW.out.mono ?_); rintro e w2 ⟨rfl, hb2⟩; have HB2 := Lib.hid (HB1.out.trans (hb2.mono HB1.out.size)); clear hb2)
        go_roundw
        case rel => exact ⟨1, by omega, by go_num, by simp, HB2⟩
        case measure => simp [intOf]
    · obtain rfl : j = 1 := by omega
      rw [if_neg (by decide)]
      go_wp2
      go_ret
      exact ⟨rfl, HB.out⟩
set_option maxRecDepth 100000 in
set_option maxHeartbeats 4000000 in
theorem may_g (c a : Nat) (v : ByteArray) (rev fl ks vs r : Int) (mp : Value) (w : World) (h : w.heap[c]? = some (obS rev fl mp ks vs)) (ha : w.heap[a]? = some (obC v)) (hk : 0 ≤ r ∧ r ≤ 3) (hv : 0 ≤ vs ∧ vs ≤ 8) (hr : 0 ≤ rev ∧ rev ≤ 10)
    (HH : Hid (∀ V, Below w.heap.size w V → Calls Try.prog 35 #[.pointer (some ⟨c, 0, none⟩), .slice (some ⟨a, 0, none⟩) 1 1] V fun e w' => e = .returned (.int .i64 r) ∧ Below V.heap.size V w')) :
    Calls Try.prog 20 #[.pointer (some ⟨c, 0, none⟩), .slice (some ⟨a, 0, none⟩) 1 1] w fun e w' => e = .returned (.int .i64 0) ∧ Below w.heap.size w w' := by
  have HR := Lib.hid (right_1 c a v w ha)
  have hq : IntKind.i64.wrap (vs + 1) = vs + 1 := by rw [IntKind.wrap_i64]; omega
  have d1 : decide (rev ≥ 9007199254740991) = false := decide_eq_false (by omega)
  have d2 : decide (max 3 1 < r) = false := decide_eq_false (by omega)
  have d3 : decide (max 9 1 < vs + 1) = false := decide_eq_false (by omega)
  have HO := Lib.hid h
  have hcl : c < w.heap.size := (Array.getElem?_eq_some_iff.1 h).1
  clear h ha hk hv hr
  go_enter Try.func20, Try.ntmps20
  go_upto_region 5 with (go_at_call 34; (with_reducible refine HR.out.mono ?_); rintro e w1 ⟨rfl, hb1⟩; have HB1 := Lib.hid hb1; clear hb1)
  have hS0 : (fun V : World => V.heap[c]? = some (obS rev fl mp ks vs)) w1.drew := ((btr HB1.out (bdr w1)).block c hcl).trans HO.out
  obtain ⟨V9, hV9⟩ : ∃ V9, V9 = w1.drew := ⟨_, rfl⟩
  have HB9 : Hid (Below w.heap.size w V9) := by rw [hV9]; exact Lib.hid (btr HB1.out (bdr w1))
  have hS9 : (fun V : World => V.heap[c]? = some (obS rev fl mp ks vs)) V9 := by rw [hV9]; exact hS0
  refine wp_region_held_drew (S := (fun V : World => V.heap[c]? = some (obS rev fl mp ks vs))) (by kernel_rfl) hS0 (fun hHeld => ?_)
  rw [← hV9] at hHeld ⊢
  clear hV9 hS0 hHeld
  refine wpAnyH_take (i := 0) (oi := ?o0) (v := ?v0) ?e0 ?a0 ?b0 ?c0 ?q0 (Or.inl ⟨?w0, ?h0⟩) ?s0 ?r0
  case e0 => (simp only [List.getElem?_toArray, List.getElem?_cons_zero, List.getElem?_cons_succ]; rfl)
  case a0 => kernel_rfl
  case b0 => kernel_rfl
  case c0 => kernel_rfl
  case q0 => exact fun _ _ _ h => h
  case w0 => rfl
  case s0 => assumption
  case h0 => (intro W hSw; obtain ⟨a0, a1, a2, a3, a4, a5, a6, a7⟩ := cells8 hSw; go_simp; try with_reducible rfl)
  try simp only [Act.put, List.setIfInBounds_toArray, List.set_cons_zero, List.set_cons_succ]
  refine wpAnyH_take (i := 1) (oi := ?o1) (v := ?v1) ?e1 ?a1 ?b1 ?c1 ?q1 (Or.inl ⟨?w1, ?h1⟩) ?s1 ?r1
  case e1 => (simp only [List.getElem?_toArray, List.getElem?_cons_zero, List.getElem?_cons_succ]; rfl)
  case a1 => kernel_rfl
  case b1 => kernel_rfl
  case c1 => kernel_rfl
  case q1 => exact fun _ _ _ h => h
  case w1 => rfl
  case s1 => assumption
  case h1 => (intro W hSw; obtain ⟨a0, a1, a2, a3, a4, a5, a6, a7⟩ := cells8 hSw; go_simp; try with_reducible rfl)
  try simp only [Act.put, List.setIfInBounds_toArray, List.set_cons_zero, List.set_cons_succ]
  refine wpAnyH_take (i := 2) (oi := ?o2) (v := ?v2) ?e2 ?a2 ?b2 ?c2 ?q2 (Or.inl ⟨?w2, ?h2⟩) ?s2 ?r2
  case e2 => (simp only [List.getElem?_toArray, List.getElem?_cons_zero, List.getElem?_cons_succ]; rfl)
  case a2 => kernel_rfl
  case b2 => kernel_rfl
  case c2 => kernel_rfl
  case q2 => exact fun _ _ _ h => h
  case w2 => rfl
  case s2 => assumption
  case h2 => (intro W hSw; obtain ⟨a0, a1, a2, a3, a4, a5, a6, a7⟩ := cells8 hSw; go_simp; try with_reducible rfl)
  try simp only [Act.put, List.setIfInBounds_toArray, List.set_cons_zero, List.set_cons_succ]
  refine wpAnyH_take (i := 3) (oi := ?o3) (v := ?v3) ?e3 ?a3 ?b3 ?c3 ?q3 (Or.inl ⟨?w3, ?h3⟩) ?s3 ?r3
  case e3 => (simp only [List.getElem?_toArray, List.getElem?_cons_zero, List.getElem?_cons_succ]; rfl)
  case a3 => kernel_rfl
  case b3 => kernel_rfl
  case c3 => kernel_rfl
  case q3 => exact fun _ _ _ h => h
  case w3 => rfl
  case s3 => assumption
  case h3 => (intro W hSw; obtain ⟨a0, a1, a2, a3, a4, a5, a6, a7⟩ := cells8 hSw; go_simp; try with_reducible rfl)
  try simp only [Act.put, List.setIfInBounds_toArray, List.set_cons_zero, List.set_cons_succ]
  refine wpAnyH_take (i := 4) (oi := ?o4) (v := ?v4) ?e4 ?a4 ?b4 ?c4 ?q4 (Or.inl ⟨?w4, ?h4⟩) ?s4 ?r4
  case e4 => (simp only [List.getElem?_toArray, List.getElem?_cons_zero, List.getElem?_cons_succ]; rfl)
  case a4 => kernel_rfl
  case b4 => kernel_rfl
  case c4 => kernel_rfl
  case q4 => exact fun _ _ _ h => h
  case w4 => rfl
  case s4 => assumption
  case h4 => (intro W hSw; obtain ⟨a0, a1, a2, a3, a4, a5, a6, a7⟩ := cells8 hSw; go_simp; try with_reducible rfl)
  try simp only [Act.put, List.setIfInBounds_toArray, List.set_cons_zero, List.set_cons_succ]
  try simp only [d1]
  refine wpAnyH_take (i := 5) (oi := ?o5) (v := ?v5) ?e5 ?a5 ?b5 ?c5 ?q5 (Or.inl ⟨?w5, ?h5⟩) ?s5 ?r5
  case e5 => (simp only [List.getElem?_toArray, List.getElem?_cons_zero, List.getElem?_cons_succ]; rfl)
  case a5 => kernel_rfl
  case b5 => kernel_rfl
  case c5 => kernel_rfl
  case q5 => exact fun _ _ _ h => h
  case w5 => rfl
  case s5 => assumption
  case h5 => (intro W hSw; obtain ⟨a0, a1, a2, a3, a4, a5, a6, a7⟩ := cells8 hSw; go_simp; try with_reducible rfl)
  try simp only [Act.put, List.setIfInBounds_toArray, List.set_cons_zero, List.set_cons_succ]
  refine wpAnyH_take (i := 6) (oi := ?o6) (v := ?v6) ?e6 ?a6 ?b6 ?c6 ?q6 (Or.inl ⟨?w6, ?h6⟩) ?s6 ?r6
  case e6 => (simp only [List.getElem?_toArray, List.getElem?_cons_zero, List.getElem?_cons_succ]; rfl)
  case a6 => kernel_rfl
  case b6 => kernel_rfl
  case c6 => kernel_rfl
  case q6 => exact fun _ _ _ h => h
  case w6 => rfl
  case s6 => assumption
  case h6 => (intro W hSw; obtain ⟨a0, a1, a2, a3, a4, a5, a6, a7⟩ := cells8 hSw; go_simp; try with_reducible rfl)
  try simp only [Act.put, List.setIfInBounds_toArray, List.set_cons_zero, List.set_cons_succ]
  refine wpAnyH_take (i := 7) (oi := ?o7) (v := ?v7) ?e7 ?a7 ?b7 ?c7 ?q7 (Or.inl ⟨?w7, ?h7⟩) ?s7 ?r7
  case e7 => (simp only [List.getElem?_toArray, List.getElem?_cons_zero, List.getElem?_cons_succ]; rfl)
  case a7 => kernel_rfl
  case b7 => kernel_rfl
  case c7 => kernel_rfl
  case q7 => exact fun _ _ _ h => h
  case w7 => rfl
  case s7 => assumption
  case h7 => (intro W hSw; obtain ⟨a0, a1, a2, a3, a4, a5, a6, a7⟩ := cells8 hSw; go_simp; try with_reducible rfl)
  try simp only [Act.put, List.setIfInBounds_toArray, List.set_cons_zero, List.set_cons_succ]
  refine wpAnyH_take (i := 9) (oi := ?o9) (v := ?v9) ?e9 ?a9 ?b9 ?c9 ?q9 (Or.inl ⟨?w9, ?h9⟩) ?s9 ?r9
  case e9 => (simp only [List.getElem?_toArray, List.getElem?_cons_zero, List.getElem?_cons_succ]; rfl)
  case a9 => kernel_rfl
  case b9 => kernel_rfl
  case c9 => kernel_rfl
  case q9 => exact fun _ _ _ h => h
  case w9 => rfl
  case s9 => assumption
  case h9 => (intro W hSw; obtain ⟨a0, a1, a2, a3, a4, a5, a6, a7⟩ := cells8 hSw; go_simp; try with_reducible rfl)
  try simp only [Act.put, List.setIfInBounds_toArray, List.set_cons_zero, List.set_cons_succ]
  refine wpAnyH_take (i := 10) (oi := ?o10) (v := ?v10) ?e10 ?a10 ?b10 ?c10 ?q10 (Or.inl ⟨?w10, ?h10⟩) ?s10 ?r10
  case e10 => (simp only [List.getElem?_toArray, List.getElem?_cons_zero, List.getElem?_cons_succ]; rfl)
  case a10 => kernel_rfl
  case b10 => kernel_rfl
  case c10 => kernel_rfl
  case q10 => exact fun _ _ _ h => h
  case w10 => rfl
  case s10 => assumption
  case h10 => (intro W hSw; obtain ⟨a0, a1, a2, a3, a4, a5, a6, a7⟩ := cells8 hSw; go_simp; try with_reducible rfl)
  try simp only [Act.put, List.setIfInBounds_toArray, List.set_cons_zero, List.set_cons_succ]
  refine wpAnyH_take (i := 11) (oi := ?o11) (v := ?v11) ?e11 ?a11 ?b11 ?c11 ?q11 (Or.inl ⟨?w11, ?h11⟩) ?s11 ?r11
  case e11 => (simp only [List.getElem?_toArray, List.getElem?_cons_zero, List.getElem?_cons_succ]; rfl)
  case a11 => kernel_rfl
  case b11 => kernel_rfl
  case c11 => kernel_rfl
  case q11 => exact fun _ _ _ h => h
  case w11 => rfl
  case s11 => assumption
  case h11 => (intro W hSw; obtain ⟨a0, a1, a2, a3, a4, a5, a6, a7⟩ := cells8 hSw; go_simp; try with_reducible rfl)
  try simp only [Act.put, List.setIfInBounds_toArray, List.set_cons_zero, List.set_cons_succ]
  refine wpAnyH_take (i := 12) (oi := ?o12) (v := ?v12) ?e12 ?a12 ?b12 ?c12 ?q12 (Or.inl ⟨?w12, ?h12⟩) ?s12 ?r12
  case e12 => (simp only [List.getElem?_toArray, List.getElem?_cons_zero, List.getElem?_cons_succ]; rfl)
  case a12 => kernel_rfl
  case b12 => kernel_rfl
  case c12 => kernel_rfl
  case q12 => exact fun _ _ _ h => h
  case w12 => rfl
  case s12 => assumption
  case h12 => (intro W hSw; obtain ⟨a0, a1, a2, a3, a4, a5, a6, a7⟩ := cells8 hSw; go_simp; try with_reducible rfl)
  try simp only [Act.put, List.setIfInBounds_toArray, List.set_cons_zero, List.set_cons_succ]
  refine wpAnyH_take (i := 13) (oi := ?o13) (v := ?v13) ?e13 ?a13 ?b13 ?c13 ?q13 (Or.inl ⟨?w13, ?h13⟩) ?s13 ?r13
  case e13 => (simp only [List.getElem?_toArray, List.getElem?_cons_zero, List.getElem?_cons_succ]; rfl)
  case a13 => kernel_rfl
  case b13 => kernel_rfl
  case c13 => kernel_rfl
  case q13 => exact fun _ _ _ h => h
  case w13 => rfl
  case s13 => assumption
  case h13 => (intro W hSw; obtain ⟨a0, a1, a2, a3, a4, a5, a6, a7⟩ := cells8 hSw; go_simp; try with_reducible rfl)
  try simp only [Act.put, List.setIfInBounds_toArray, List.set_cons_zero, List.set_cons_succ]
  refine wpAnyH_take (i := 14) (oi := ?o14) (v := ?v14) ?e14 ?a14 ?b14 ?c14 ?q14 (Or.inl ⟨?w14, ?h14⟩) ?s14 ?r14
  case e14 => (simp only [List.getElem?_toArray, List.getElem?_cons_zero, List.getElem?_cons_succ]; rfl)
  case a14 => kernel_rfl
  case b14 => kernel_rfl
  case c14 => kernel_rfl
  case q14 => exact fun _ _ _ h => h
  case w14 => rfl
  case s14 => assumption
  case h14 => (intro W hSw; obtain ⟨a0, a1, a2, a3, a4, a5, a6, a7⟩ := cells8 hSw; go_simp; try with_reducible rfl)
  try simp only [Act.put, List.setIfInBounds_toArray, List.set_cons_zero, List.set_cons_succ]
  refine wpAnyH_ready (rs := [8]) (by kernel_rfl) (by simp) (AllReadyH.cons (o := ?o8z8) ?e8z8 (fun K hK => ?k8z8) AllReadyH.nil)
  case e8z8 => (simp only [List.getElem?_toArray, List.getElem?_cons_zero, List.getElem?_cons_succ]; rfl)
  go_simp
  (with_reducible refine (HH.out V9 HB9.out).mono ?_)
  rintro e V1 ⟨rfl, hbA⟩
  have HBV1 := Lib.hid (btr HB9.out hbA)
  have hS1 : (fun V : World => V.heap[c]? = some (obS rev fl mp ks vs)) V1 := (hbA.block c (by have := HB9.out.size; omega)).trans hS9
  clear hbA
  go_wp2_with fail
  refine hK.out _ _ hS1 (fun _ => ?_)
  clear hK K
  try simp only [Act.put, List.setIfInBounds_toArray, List.set_cons_zero, List.set_cons_succ]
  refine wpAnyH_take (i := 15) (oi := ?o15) (v := ?v15) ?e15 ?a15 ?b15 ?c15 ?q15 (Or.inl ⟨?w15, ?h15⟩) ?s15 ?r15
  case e15 => (simp only [List.getElem?_toArray, List.getElem?_cons_zero, List.getElem?_cons_succ]; rfl)
  case a15 => kernel_rfl
  case b15 => kernel_rfl
  case c15 => kernel_rfl
  case q15 => exact fun _ _ _ h => h
  case w15 => rfl
  case s15 => assumption
  case h15 => (intro W hSw; obtain ⟨a0, a1, a2, a3, a4, a5, a6, a7⟩ := cells8 hSw; go_simp; try with_reducible rfl)
  try simp only [Act.put, List.setIfInBounds_toArray, List.set_cons_zero, List.set_cons_succ]
  try simp only [d2]
  refine wpAnyH_take (i := 16) (oi := ?o16) (v := ?v16) ?e16 ?a16 ?b16 ?c16 ?q16 (Or.inl ⟨?w16, ?h16⟩) ?s16 ?r16
  case e16 => (simp only [List.getElem?_toArray, List.getElem?_cons_zero, List.getElem?_cons_succ]; rfl)
  case a16 => kernel_rfl
  case b16 => kernel_rfl
  case c16 => kernel_rfl
  case q16 => exact fun _ _ _ h => h
  case w16 => rfl
  case s16 => assumption
  case h16 => (intro W hSw; obtain ⟨a0, a1, a2, a3, a4, a5, a6, a7⟩ := cells8 hSw; go_simp; try with_reducible rfl)
  try simp only [Act.put, List.setIfInBounds_toArray, List.set_cons_zero, List.set_cons_succ]
  refine wpAnyH_take (i := 17) (oi := ?o17) (v := ?v17) ?e17 ?a17 ?b17 ?c17 ?q17 (Or.inl ⟨?w17, ?h17⟩) ?s17 ?r17
  case e17 => (simp only [List.getElem?_toArray, List.getElem?_cons_zero, List.getElem?_cons_succ]; rfl)
  case a17 => kernel_rfl
  case b17 => kernel_rfl
  case c17 => kernel_rfl
  case q17 => exact fun _ _ _ h => h
  case w17 => rfl
  case s17 => assumption
  case h17 => (intro W hSw; obtain ⟨a0, a1, a2, a3, a4, a5, a6, a7⟩ := cells8 hSw; go_simp; try with_reducible rfl)
  try simp only [Act.put, List.setIfInBounds_toArray, List.set_cons_zero, List.set_cons_succ]
  refine wpAnyH_take (i := 18) (oi := ?o18) (v := ?v18) ?e18 ?a18 ?b18 ?c18 ?q18 (Or.inl ⟨?w18, ?h18⟩) ?s18 ?r18
  case e18 => (simp only [List.getElem?_toArray, List.getElem?_cons_zero, List.getElem?_cons_succ]; rfl)
  case a18 => kernel_rfl
  case b18 => kernel_rfl
  case c18 => kernel_rfl
  case q18 => exact fun _ _ _ h => h
  case w18 => rfl
  case s18 => assumption
  case h18 => (intro W hSw; obtain ⟨a0, a1, a2, a3, a4, a5, a6, a7⟩ := cells8 hSw; go_simp; try with_reducible rfl)
  try simp only [Act.put, List.setIfInBounds_toArray, List.set_cons_zero, List.set_cons_succ]
  refine wpAnyH_take (i := 19) (oi := ?o19) (v := ?v19) ?e19 ?a19 ?b19 ?c19 ?q19 (Or.inl ⟨?w19, ?h19⟩) ?s19 ?r19
  case e19 => (simp only [List.getElem?_toArray, List.getElem?_cons_zero, List.getElem?_cons_succ]; rfl)
  case a19 => kernel_rfl
  case b19 => kernel_rfl
  case c19 => kernel_rfl
  case q19 => exact fun _ _ _ h => h
  case w19 => rfl
  case s19 => assumption
  case h19 => (intro W hSw; obtain ⟨a0, a1, a2, a3, a4, a5, a6, a7⟩ := cells8 hSw; go_simp; try with_reducible rfl)
  try simp only [Act.put, List.setIfInBounds_toArray, List.set_cons_zero, List.set_cons_succ]
  refine wpAnyH_take (i := 20) (oi := ?o20) (v := ?v20) ?e20 ?a20 ?b20 ?c20 ?q20 (Or.inl ⟨?w20, ?h20⟩) ?s20 ?r20
  case e20 => (simp only [List.getElem?_toArray, List.getElem?_cons_zero, List.getElem?_cons_succ]; rfl)
  case a20 => kernel_rfl
  case b20 => kernel_rfl
  case c20 => kernel_rfl
  case q20 => exact fun _ _ _ h => h
  case w20 => rfl
  case s20 => assumption
  case h20 => (intro W hSw; obtain ⟨a0, a1, a2, a3, a4, a5, a6, a7⟩ := cells8 hSw; go_simp; try with_reducible rfl)
  try simp only [Act.put, List.setIfInBounds_toArray, List.set_cons_zero, List.set_cons_succ]
  refine wpAnyH_take (i := 21) (oi := ?o21) (v := ?v21) ?e21 ?a21 ?b21 ?c21 ?q21 (Or.inl ⟨?w21, ?h21⟩) ?s21 ?r21
  case e21 => (simp only [List.getElem?_toArray, List.getElem?_cons_zero, List.getElem?_cons_succ]; rfl)
  case a21 => kernel_rfl
  case b21 => kernel_rfl
  case c21 => kernel_rfl
  case q21 => exact fun _ _ _ h => h
  case w21 => rfl
  case s21 => assumption
  case h21 => (intro W hSw; obtain ⟨a0, a1, a2, a3, a4, a5, a6, a7⟩ := cells8 hSw; go_simp; try with_reducible rfl)
  try simp only [Act.put, List.setIfInBounds_toArray, List.set_cons_zero, List.set_cons_succ]
  refine wpAnyH_take (i := 22) (oi := ?o22) (v := ?v22) ?e22 ?a22 ?b22 ?c22 ?q22 (Or.inl ⟨?w22, ?h22⟩) ?s22 ?r22
  case e22 => (simp only [List.getElem?_toArray, List.getElem?_cons_zero, List.getElem?_cons_succ]; rfl)
  case a22 => kernel_rfl
  case b22 => kernel_rfl
  case c22 => kernel_rfl
  case q22 => exact fun _ _ _ h => h
  case w22 => rfl
  case s22 => assumption
  case h22 => (intro W hSw; obtain ⟨a0, a1, a2, a3, a4, a5, a6, a7⟩ := cells8 hSw; go_simp; try with_reducible rfl)
  try simp only [Act.put, List.setIfInBounds_toArray, List.set_cons_zero, List.set_cons_succ]
  refine wpAnyH_take (i := 23) (oi := ?o23) (v := ?v23) ?e23 ?a23 ?b23 ?c23 ?q23 (Or.inl ⟨?w23, ?h23⟩) ?s23 ?r23
  case e23 => (simp only [List.getElem?_toArray, List.getElem?_cons_zero, List.getElem?_cons_succ]; rfl)
  case a23 => kernel_rfl
  case b23 => kernel_rfl
  case c23 => kernel_rfl
  case q23 => exact fun _ _ _ h => h
  case w23 => rfl
  case s23 => assumption
  case h23 => (intro W hSw; obtain ⟨a0, a1, a2, a3, a4, a5, a6, a7⟩ := cells8 hSw; go_simp; try with_reducible rfl)
  try simp only [Act.put, List.setIfInBounds_toArray, List.set_cons_zero, List.set_cons_succ]
  refine wpAnyH_take (i := 24) (oi := ?o24) (v := ?v24) ?e24 ?a24 ?b24 ?c24 ?q24 (Or.inl ⟨?w24, ?h24⟩) ?s24 ?r24
  case e24 => (simp only [List.getElem?_toArray, List.getElem?_cons_zero, List.getElem?_cons_succ]; rfl)
  case a24 => kernel_rfl
  case b24 => kernel_rfl
  case c24 => kernel_rfl
  case q24 => exact fun _ _ _ h => h
  case w24 => rfl
  case s24 => assumption
  case h24 => (intro W hSw; obtain ⟨a0, a1, a2, a3, a4, a5, a6, a7⟩ := cells8 hSw; go_simp; try with_reducible rfl)
  try simp only [Act.put, List.setIfInBounds_toArray, List.set_cons_zero, List.set_cons_succ]
  refine wpAnyH_take (i := 25) (oi := ?o25) (v := ?v25) ?e25 ?a25 ?b25 ?c25 ?q25 (Or.inl ⟨?w25, ?h25⟩) ?s25 ?r25
  case e25 => (simp only [List.getElem?_toArray, List.getElem?_cons_zero, List.getElem?_cons_succ]; rfl)
  case a25 => kernel_rfl
  case b25 => kernel_rfl
  case c25 => kernel_rfl
  case q25 => exact fun _ _ _ h => h
  case w25 => rfl
  case s25 => assumption
  case h25 => (intro W hSw; obtain ⟨a0, a1, a2, a3, a4, a5, a6, a7⟩ := cells8 hSw; go_simp; try with_reducible rfl)
  try simp only [Act.put, List.setIfInBounds_toArray, List.set_cons_zero, List.set_cons_succ]
  refine wpAnyH_take (i := 26) (oi := ?o26) (v := ?v26) ?e26 ?a26 ?b26 ?c26 ?q26 (Or.inl ⟨?w26, ?h26⟩) ?s26 ?r26
  case e26 => (simp only [List.getElem?_toArray, List.getElem?_cons_zero, List.getElem?_cons_succ]; rfl)
  case a26 => kernel_rfl
  case b26 => kernel_rfl
  case c26 => kernel_rfl
  case q26 => exact fun _ _ _ h => h
  case w26 => rfl
  case s26 => assumption
  case h26 => (intro W hSw; obtain ⟨a0, a1, a2, a3, a4, a5, a6, a7⟩ := cells8 hSw; go_simp; try with_reducible rfl)
  try simp only [Act.put, List.setIfInBounds_toArray, List.set_cons_zero, List.set_cons_succ]
  refine wpAnyH_take (i := 27) (oi := ?o27) (v := ?v27) ?e27 ?a27 ?b27 ?c27 ?q27 (Or.inl ⟨?w27, ?h27⟩) ?s27 ?r27
  case e27 => (simp only [List.getElem?_toArray, List.getElem?_cons_zero, List.getElem?_cons_succ]; rfl)
  case a27 => kernel_rfl
  case b27 => kernel_rfl
  case c27 => kernel_rfl
  case q27 => exact fun _ _ _ h => h
  case w27 => rfl
  case s27 => assumption
  case h27 => (intro W hSw; obtain ⟨a0, a1, a2, a3, a4, a5, a6, a7⟩ := cells8 hSw; go_simp; try with_reducible rfl)
  try simp only [Act.put, List.setIfInBounds_toArray, List.set_cons_zero, List.set_cons_succ]
  refine wpAnyH_take (i := 28) (oi := ?o28) (v := ?v28) ?e28 ?a28 ?b28 ?c28 ?q28 (Or.inl ⟨?w28, ?h28⟩) ?s28 ?r28
  case e28 => (simp only [List.getElem?_toArray, List.getElem?_cons_zero, List.getElem?_cons_succ]; rfl)
  case a28 => kernel_rfl
  case b28 => kernel_rfl
  case c28 => kernel_rfl
  case q28 => exact fun _ _ _ h => h
  case w28 => rfl
  case s28 => assumption
  case h28 => (intro W hSw; obtain ⟨a0, a1, a2, a3, a4, a5, a6, a7⟩ := cells8 hSw; go_simp; try with_reducible rfl)
  try simp only [Act.put, List.setIfInBounds_toArray, List.set_cons_zero, List.set_cons_succ]
  refine wpAnyH_take (i := 29) (oi := ?o29) (v := ?v29) ?e29 ?a29 ?b29 ?c29 ?q29 (Or.inl ⟨?w29, ?h29⟩) ?s29 ?r29
  case e29 => (simp only [List.getElem?_toArray, List.getElem?_cons_zero, List.getElem?_cons_succ]; rfl)
  case a29 => kernel_rfl
  case b29 => kernel_rfl
  case c29 => kernel_rfl
  case q29 => exact fun _ _ _ h => h
  case w29 => rfl
  case s29 => assumption
  case h29 => (intro W hSw; obtain ⟨a0, a1, a2, a3, a4, a5, a6, a7⟩ := cells8 hSw; go_simp; try with_reducible rfl)
  try simp only [Act.put, List.setIfInBounds_toArray, List.set_cons_zero, List.set_cons_succ]
  refine wpAnyH_take (i := 30) (oi := ?o30) (v := ?v30) ?e30 ?a30 ?b30 ?c30 ?q30 (Or.inl ⟨?w30, ?h30⟩) ?s30 ?r30
  case e30 => (simp only [List.getElem?_toArray, List.getElem?_cons_zero, List.getElem?_cons_succ]; rfl)
  case a30 => kernel_rfl
  case b30 => kernel_rfl
  case c30 => kernel_rfl
  case q30 => exact fun _ _ _ h => h
  case w30 => rfl
  case s30 => assumption
  case h30 => (intro W hSw; obtain ⟨a0, a1, a2, a3, a4, a5, a6, a7⟩ := cells8 hSw; go_simp; try with_reducible rfl)
  try simp only [Act.put, List.setIfInBounds_toArray, List.set_cons_zero, List.set_cons_succ]
  refine wpAnyH_take (i := 31) (oi := ?o31) (v := ?v31) ?e31 ?a31 ?b31 ?c31 ?q31 (Or.inl ⟨?w31, ?h31⟩) ?s31 ?r31
  case e31 => (simp only [List.getElem?_toArray, List.getElem?_cons_zero, List.getElem?_cons_succ]; rfl)
  case a31 => kernel_rfl
  case b31 => kernel_rfl
  case c31 => kernel_rfl
  case q31 => exact fun _ _ _ h => h
  case w31 => rfl
  case s31 => assumption
  case h31 => (intro W hSw; obtain ⟨a0, a1, a2, a3, a4, a5, a6, a7⟩ := cells8 hSw; go_simp; try with_reducible rfl)
  try simp only [Act.put, List.setIfInBounds_toArray, List.set_cons_zero, List.set_cons_succ]
  try simp only [d3]
  refine wpAnyH_take (i := 32) (oi := ?o32) (v := ?v32) ?e32 ?a32 ?b32 ?c32 ?q32 (Or.inl ⟨?w32, ?h32⟩) ?s32 ?r32
  case e32 => (simp only [List.getElem?_toArray, List.getElem?_cons_zero, List.getElem?_cons_succ]; rfl)
  case a32 => kernel_rfl
  case b32 => kernel_rfl
  case c32 => kernel_rfl
  case q32 => exact fun _ _ _ h => h
  case w32 => rfl
  case s32 => assumption
  case h32 => (intro W hSw; obtain ⟨a0, a1, a2, a3, a4, a5, a6, a7⟩ := cells8 hSw; go_simp; try with_reducible rfl)
  try simp only [Act.put, List.setIfInBounds_toArray, List.set_cons_zero, List.set_cons_succ]
  refine wpAnyH_done (by kernel_rfl) ?_ _
  go_wp2
  go_ret
  exact ⟨rfl, HBV1.out⟩
end Go.Proofs.Ytjceofkcahfhmaa.Mv
namespace Go.Proofs.Ytjceofkcahfhmaa.Mv
open Go.RowKit Go.Lib Go.Maps
open Go.Proofs.Ytjceofkcahfhmaa.Cn
set_option linter.unusedSimpArgs false
set_option linter.unusedVariables false

theorem set_oth (w : World) (c i : Nat) (u : Value) {k : Nat} (h : k ≠ c) : (w.setCell ⟨c, i, none⟩ u).heap[k]? = w.heap[k]? := Below.heap_setCell _ _ _ _ h
theorem bel_set {B c : Nat} (W : World) (h : B ≤ c) (i : Nat) (u : Value) : Below B W (W.setCell ⟨c, i, none⟩ u) :=
  ⟨rfl, rfl, rfl, by simp [World.setCell], fun k hk => set_oth W c i u (by omega)⟩
theorem bel_grown {B b : Nat} {w w' : World} (h : w.grownBy w' (some b)) (hb : B ≤ b) (hB : B ≤ w.heap.size) : Below B w w' := ⟨h.os, h.tape, h.output, h.size, fun k hk => h.block k (by omega) (fun e => by injection e with e; omega)⟩
theorem IsCh.mono {B B' c N : Nat} {gb : Option Nat} {l : List Ver} {w : World} (h : IsCh B c N gb l w) (hB : B' ≤ B) : IsCh B' c N gb l w := by
  obtain ⟨v, all, k, h1, h2, h3, h4, h5, h6⟩ := h
  exact ⟨v, all, k, h1, h2, h3, h4, h5, OwV.mono h6 hB⟩
theorem eq_nn (w : World) : (binOp BinOp.eql 52 (.map none) (.map none)).run Try.prog w = .ok (.bool true) w := by kernel_rfl
theorem set4 {w : World} {c : Nat} {rev fl ks vs : Int} {mp : Value} (h : w.heap[c]? = some (obS rev fl mp ks vs)) (u : Value) : (w.setCell ⟨c, 4, none⟩ u).heap[c]? = some (obS rev fl u ks vs) := by
  have := Cn.blk_set h 4 u; simpa using this
theorem set7 {w : World} {c : Nat} {rev fl ks vs : Int} {mp : Value} (h : w.heap[c]? = some (obS rev fl mp ks vs)) : (w.setCell ⟨c, 7, none⟩ (.slice none 0 0)).heap[c]? = some (obS rev fl mp ks vs) := by
  have := Cn.blk_set h 7 (.slice none 0 0); simpa using this
set_option maxRecDepth 100000 in
set_option maxHeartbeats 8000000 in
theorem put_0 (B c : Nat) (v : ByteArray) (rev fl vs : Int) (w : World) (h : w.heap[c]? = some (obS rev fl (.map none) 1 vs)) (hB : B ≤ c) (hr : 1 ≤ rev ∧ rev ≤ 100) :
    Calls Try.prog 36 #[.pointer (some ⟨c, 0, none⟩), .agg #[.string kb, .string v, .bool false]] w fun e w' => e = .returned (.tuple #[]) ∧ ∃ b d gb, S1 B c b d 1 gb [(rev, v, false)] rev fl vs w' ∧ Below B w w' := by
  have hcl : c < w.heap.size := (Array.getElem?_eq_some_iff.1 h).1
  obtain ⟨W0, hW0, hk0, hb0⟩ := Cn.new3 w (.string kb) (.string v) (.bool false) 80
  have hz0 : w.heap.size < W0.heap.size := (Array.getElem?_eq_some_iff.1 hk0).1
  have HW0 := Lib.hid hW0
  have HK0 := Lib.hid hk0
  have HB0 : Hid (Below B w W0) := hb0.mono (by omega)
  have HS0 : Hid (W0.heap[c]? = some (obS rev fl (.map none) 1 vs)) := (hb0.block c hcl).trans h
  have hl := look0 W0.drew
  have hmm := @run_makeMap Try.prog
  have henn := eq_nn
  obtain ⟨WM, hWM⟩ : ∃ WM, WM = W0.alloc (.map #[] 0) := ⟨_, rfl⟩
  have hbM : Below W0.heap.size W0 WM := by rw [hWM]; exact (Below.refl _ _).alloc (Nat.le_refl _) _
  have hM : WM.ownsMap Try.prog 9 ptrE W0.heap.size 0 (.map []) := by rw [hWM]; exact World.ownsMap_made W0 _ _ _
  have hSM := (hbM.block c (by omega)).trans HS0.out
  obtain ⟨W3, hW3⟩ : ∃ W3, W3 = (WM.setCell ⟨c, 4, none⟩ (.map (some W0.heap.size))).drew := ⟨_, rfl⟩
  have HS3 : Hid (W3.heap[c]? = some (obS rev fl (.map (some W0.heap.size)) 1 vs)) := by rw [hW3]; exact set4 hSM _
  have HM3 : Hid (W3.ownsMap Try.prog 9 ptrE W0.heap.size 0 (.map [])) := by rw [hW3]; exact own_keep hM (set_oth _ _ _ _ (by omega))
  have HK3 : Hid (W3.heap[w.heap.size]? = some (obC v)) := by
    rw [hW3]
    exact (set_oth _ _ _ _ (by omega)).trans ((hbM.block _ (by omega)).trans HK0.out)
  have HB3 : Hid (Below B w W3) := by
    rw [hW3]
    exact Lib.hid (HB0.out.trans ((hbM.mono (by omega)).trans (bel_set WM hB 4 _)).drew)
  have hz3 : W0.heap.size < W3.heap.size := HM3.out.lt
  have HW3 := Lib.hid hW3
  obtain ⟨c0, c1, c2, c3, c4, c5, c6, c7⟩ := cells8 HS0.out
  obtain ⟨x0, x1, x2⟩ := Cn.cells3 HK0.out
  have m4 : (W0.alloc (.map #[] 0)).cell? ⟨c, 4, none⟩ = some (.map none) := by
    have := cell_of_row _ _ 4 _ _ _ hSM
    rw [hWM] at this
    exact this
  have f4 : (W0.alloc (.map #[] 0)).frozen? ⟨c, 4, none⟩ = false := by
    have := frz hSM 4
    rw [hWM] at this
    exact this
  have HWM := Lib.hid hWM
  have hne : c ≠ W0.heap.size := by omega
  clear h hW0 hk0 hb0 hWM hW3 hbM hM hSM
  go_enter Try.func36, Try.ntmps36
  go_upto_region 1 with (fail)
  rw [← HW0.out]
  go_region
  all_goals
    go_upto_region 5 with (fail)
    rw [← HWM.out, ← HW3.out]
    clear c0 c1 c2 c3 c4 c5 c6 c7 x0 x1 x2 m4 f4
    go_upto_region 6 with (go_at_call 51; (with_reducible refine (New_c W3).mono ?_); rintro e w4 ⟨rfl, hc4, hb4⟩; have HC4 := Lib.hid hc4; have HB4 := Lib.hid hb4; clear hc4 hb4)
    have HS4 : Hid (w4.heap[c]? = some (obS rev fl (.map (some W0.heap.size)) 1 vs)) := (HB4.out.block c (by omega)).trans HS3.out
    have HK4 : Hid (w4.heap[w.heap.size]? = some (obC v)) := (HB4.out.block _ (by omega)).trans HK3.out
    have hM4 : w4.drew.ownsMap Try.prog 9 ptrE W0.heap.size 0 (.map []) := own_keep HM3.out (HB4.out.block _ (by omega))
    obtain ⟨W5, hu, hm5, hg5⟩ := map_new (c := W3.heap.size) hM4
    have hz4 : W3.heap.size < w4.heap.size := HC4.out.lt
    have HM5 := Lib.hid hm5
    have HG5 := Lib.hid hg5
    have hz5 : w4.heap.size ≤ W5.heap.size := hg5.size
    obtain ⟨c0, c1, c2, c3, c4, c5, c6, c7⟩ := cells8 HS4.out
    obtain ⟨x0, x1, x2⟩ := Cn.cells3 HK4.out
    have HS5 : Hid (W5.heap[c]? = some (obS rev fl (.map (some W0.heap.size)) 1 vs)) := (hg5.block c (show c < w4.heap.size by omega) (fun e => by injection e with e; omega)).trans HS4.out
    have HK5 : Hid (W5.heap[w.heap.size]? = some (obC v)) := (hg5.block _ (show w.heap.size < w4.heap.size by omega) (fun e => by injection e with e; omega)).trans HK4.out
    have HC5 : Hid (IsCh W3.heap.size W3.heap.size 0 none [] W5) := by
      obtain ⟨vv, all, k, h1, h2, h3, h4, h5, h6⟩ := HC4.out
      have he : all = [] := List.eq_nil_of_length_eq_zero (by omega)
      subst he
      refine ⟨vv, [], k, h1, h2, h3, h4, (hg5.block _ (show W3.heap.size < w4.heap.size from hz4) (fun e => by injection e with e; omega)).trans h5, ?_⟩
      exact World.ownsRow.kept (row := some W0.heap.size) (w := w4.drew) h6 hg5 (.inr (fun e => by rw [h1] at e; cases e))
    clear hM4 hm5 hg5
    go_region
    all_goals
      clear hu c0 c1 c2 c3 c4 c5 c6 c7 x0 x1 x2
      have f7 := frz HS5.out 7
      have c7 := (cells8 HS5.out).2.2.2.2.2.2.2
      obtain ⟨W6, hW6⟩ : ∃ W6, W6 = W5.setCell ⟨c, 7, none⟩ (.slice none 0 0) := ⟨_, rfl⟩
      have HS6 : Hid (W6.heap[c]? = some (obS rev fl (.map (some W0.heap.size)) 1 vs)) := by rw [hW6]; exact set7 HS5.out
      have o6 : ∀ k, k ≠ c → W6.heap[k]? = W5.heap[k]? := fun k hk => by rw [hW6]; exact set_oth _ _ _ _ hk
      have HK6 : Hid (W6.heap[w.heap.size]? = some (obC v)) := (o6 _ (by omega)).trans HK5.out
      have HM6 : Hid (MapP W0.heap.size W3.heap.size W6) := HM5.out.keep (o6 _ (by omega))
      have hz6 : W6.heap.size = W5.heap.size := by rw [hW6]; simp [World.setCell]
      have HC6 : Hid (IsCh W3.heap.size W3.heap.size 0 none [] W6) := by
        obtain ⟨vv, all, k, h1, h2, h3, h4, h5, h6⟩ := HC5.out
        have he : all = [] := List.eq_nil_of_length_eq_zero (by omega)
        subst he
        refine ⟨vv, [], k, h1, h2, h3, h4, (o6 _ (by omega)).trans h5, ?_⟩
        rw [hW6]
        exact World.ownsRow.kept (row := some c) h6 ⟨rfl, rfl, rfl, by simp [World.setCell], fun q hq hne => set_oth _ _ _ _ (fun e => hne (by rw [e]))⟩ (.inr (fun e => by rw [h1] at e; cases e))
      have hb5 := bel_grown (B := B) (w := w4.drew) HG5.out (by omega) (show B ≤ w4.heap.size by omega)
      have hb5' : Below B w4 W5 := ⟨hb5.os, hb5.tape, hb5.output, hb5.size, hb5.block⟩
      have HB6 : Hid (Below B w W6) := by
        rw [hW6]
        exact Lib.hid (((HB3.out.trans (HB4.out.mono (by omega))).trans hb5').trans (bel_set W5 hB 7 _))
      clear hb5 hb5'
      have HP : Hid (Calls Try.prog 52 #[.pointer (some ⟨W3.heap.size, 0, none⟩), .agg #[.int .i64 rev, .string v, .bool false]] W6.drew (PtQ W3.heap.size W3.heap.size 1 none [(rev, v, false)] 0 W6.drew)) :=
        put_ok W3.heap.size W3.heap.size 0 none [] (rev, v, false) W6.drew (HC6.out.go (bdr W6)) (by omega) (show W3.heap.size ≤ W6.heap.size by omega) hr.1 (by show rev ≤ _; omega) false rfl (by simp)
      unfold PtQ at HP
      go_upto_region 8 with (fail)
      rw [← hW6]
      clear hW6 c7 f7
      obtain ⟨c0, c1, c2, c3, c4, c5, c6, c7⟩ := cells8 HS6.out
      obtain ⟨x0, x1, x2⟩ := Cn.cells3 HK6.out
      go_region_with (go_at_call 52; (with_reducible refine HP.out.mono ?_); rintro e w7 ⟨rfl, gb, hc7, hch7, hnb7⟩; have HC7 := Lib.hid hc7; have HH7 := Lib.hid hch7; have HN7 := Lib.hid hnb7; clear hc7 hch7 hnb7)
      all_goals
        go_end0
        have k7 : ∀ k, k < W6.heap.size → k ≠ W3.heap.size → w7.heap[k]? = W6.heap[k]? := fun k h1 h2 => HH7.out.block k h1 h2 (fun e => by cases e)
        have hgb : ∀ g, gb = some g → W6.heap.size ≤ g := fun g hg => by
          rcases HN7.out with e | e | ⟨q, e, hq⟩
          · rw [e] at hg; cases hg
          · rw [e] at hg; cases hg
          · rw [e] at hg; injection hg with hg; rw [← hg]; exact hq
        refine ⟨rfl, W0.heap.size, W3.heap.size, gb, ⟨(k7 c (by omega) (by omega)).trans HS6.out, HM6.out.keep (k7 _ (by omega) (by omega)), IsCh.mono HC7.out (by omega), by omega, by omega, by omega, fun e => by have := hgb c e; omega, fun e => by have := hgb _ e; omega, List.pairwise_singleton _ _, by omega, by omega, by omega⟩, ?_⟩
        exact (HB6.out.trans ((bdr W6).mono (by omega))).trans (HH7.out.below (show B ≤ W6.heap.size by omega) (by omega) (fun g e => by cases e))
theorem eqp_no (d : Nat) (w : World) : True := trivial
set_option maxRecDepth 100000 in
set_option maxHeartbeats 8000000 in
theorem put_1 {B c b d N : Nat} {gb : Option Nat} {l : List Ver} {rev fl vs : Int} {w : World} (v : ByteArray) (h : S1 B c b d N gb l rev fl vs w) (hN : N ≤ 1000) (hBs : B ≤ w.heap.size) (hr : 1 ≤ rev ∧ rev ≤ 100) (q : Bool) (hl : lastB l = q) (hv : q = true → (lastV l).1 < rev) :
    Calls Try.prog 36 #[.pointer (some ⟨c, 0, none⟩), .agg #[.string kb, .string v, .bool false]] w fun e w' => e = .returned (.tuple #[]) ∧ ∃ gb', S1 B c b d (N + 1) gb' (l ++ [(rev, v, false)]) rev fl vs w' ∧ Below B w w' := by
  obtain ⟨W0, hW0, hk0, hb0⟩ := Cn.new3 w (.string kb) (.string v) (.bool false) 80
  have hcl : c < w.heap.size := (Array.getElem?_eq_some_iff.1 h.hs).1
  have hz0 : w.heap.size < W0.heap.size := (Array.getElem?_eq_some_iff.1 hk0).1
  have H0 := Lib.hid (h.kept hb0)
  have HW0 := Lib.hid hW0
  have HK0 := Lib.hid hk0
  have HB0 : Hid (Below B w W0) := hb0.mono hBs
  have hld := (H0.out.kept (bdr W0)).hm.look
  have H1 := Lib.hid (H0.out.kept (bdr W0))
  obtain ⟨c0, c1, c2, c3, c4, c5, c6, c7⟩ := cells8 H0.out.hs
  obtain ⟨x0, x1, x2⟩ := Cn.cells3 hk0
  have hasc := putL_asc h.asc (rev, v, false)
  have hpe : putE l (rev, v, false) = 0 := by
    unfold putE
    rw [if_neg (by show ¬ (rev < 1 ∨ _ < rev); omega), if_neg]
    intro he
    cases hq : q with
    | false =>
      rw [hq] at hl
      have : l = [] := by unfold lastB at hl; have := of_decide_eq_false hl; exact List.eq_nil_of_length_eq_zero (by omega)
      rw [this] at he; simp at he
    | true =>
      rw [hq] at hl
      have h0 : 0 < l.length := of_decide_eq_true hl
      rw [any_last h.asc rev h0] at he
      have h1 := of_decide_eq_true he
      have h2 := hv hq
      unfold lastV at h2
      rw [getD_at (by omega : l.length - 1 < l.length)] at h2
      omega
  rw [show putL l (rev, v, false) = l ++ [(rev, v, false)] by unfold putL; rw [if_pos hpe]] at hasc
  have HASC := Lib.hid hasc
  clear hW0 hk0 hb0 h hasc hpe
  go_enter Try.func36, Try.ntmps36
  go_upto_region 1 with (fail)
  rw [← HW0.out]
  go_region
  all_goals
    have HP : Hid (Calls Try.prog 52 #[.pointer (some ⟨d, 0, none⟩), .agg #[.int .i64 rev, .string v, .bool false]] W0.drew.drew (PtQ B d (N + 1) gb (l ++ [(rev, v, false)]) 0 W0.drew.drew)) :=
      put_ok B d N gb l (rev, v, false) W0.drew.drew ((H1.out.kept (bdr _)).hc) (by omega) (show B ≤ W0.heap.size by omega) hr.1 (by show rev ≤ _; omega) q hl hv
    unfold PtQ at HP
    go_upto_region 8 with (fail)
    go_region_with (go_at_call 52; (with_reducible refine HP.out.mono ?_); rintro e w7 ⟨rfl, gb7, hc7, hch7, hnb7⟩; have HC7 := Lib.hid hc7; have HH7 := Lib.hid hch7; have HN7 := Lib.hid hnb7; clear hc7 hch7 hnb7)
    all_goals
      go_end0
      have hcb := H0.out.hc.base
      have k7 : ∀ k, k < W0.heap.size → k ≠ d → some k ≠ gb → w7.heap[k]? = W0.heap[k]? := fun k h1 h2 h3 => HH7.out.block k h1 h2 h3
      have hg7 : ∀ g, gb7 = some g → gb = some g ∨ W0.heap.size ≤ g := fun g hg => by
        rcases HN7.out with e | e | ⟨q, e, hq⟩
        · exact .inl (by rw [← e]; exact hg)
        · rw [e] at hg; cases hg
        · rw [e] at hg; injection hg with hg; rw [← hg]; exact .inr hq
      have hbl := H0.out.hm.lt
      have hlo := H0.out.lo
      have hcl2 : c < W0.heap.size := by omega
      refine ⟨rfl, gb7, ⟨(k7 c hcl2 H0.out.cd (fun e => H0.out.gc e.symm)).trans H0.out.hs, H0.out.hm.keep (k7 b hbl H0.out.bd (fun e => H0.out.gb' e.symm)), HC7.out, H0.out.cb, H0.out.cd, H0.out.bd, fun e => ?_, fun e => ?_, HASC.out, H0.out.lo⟩, ?_⟩
      · rcases hg7 c e with h | h
        · exact H0.out.gc h
        · omega
      · rcases hg7 b e with h | h
        · exact H0.out.gb' h
        · omega
      · have hB7 := HH7.out.below (B := B) (show B ≤ W0.heap.size by omega) hlo.2.2 (fun g e => (hcb g e).1)
        exact HB0.out.trans ⟨hB7.os, hB7.tape, hB7.output, hB7.size, hB7.block⟩
end Go.Proofs.Ytjceofkcahfhmaa.Mv
namespace Go.Proofs.Ytjceofkcahfhmaa.Mv
open Go.RowKit Go.Lib Go.Maps
open Go.Proofs.Ytjceofkcahfhmaa.Cn
set_option linter.unusedSimpArgs false
set_option linter.unusedVariables false

theorem set5 {w : World} {c : Nat} {rev fl ks vs : Int} {mp : Value} (h : w.heap[c]? = some (obS rev fl mp ks vs)) (u : Int) : (w.setCell ⟨c, 5, none⟩ (.int .i64 u)).heap[c]? = some (obS rev fl mp u vs) := by
  have := Cn.blk_set h 5 (.int .i64 u); simpa using this
theorem set6v {w : World} {c : Nat} {rev fl ks vs : Int} {mp : Value} (h : w.heap[c]? = some (obS rev fl mp ks vs)) (u : Int) : (w.setCell ⟨c, 6, none⟩ (.int .i64 u)).heap[c]? = some (obS rev fl mp ks u) := by
  have := Cn.blk_set h 6 (.int .i64 u); simpa using this
theorem set2r {w : World} {c : Nat} {rev fl ks vs : Int} {mp : Value} (h : w.heap[c]? = some (obS rev fl mp ks vs)) (u : Int) : (w.setCell ⟨c, 2, none⟩ (.int .i64 u)).heap[c]? = some (obS u fl mp ks vs) := by
  have := Cn.blk_set h 2 (.int .i64 u); simpa using this
theorem set3f {w : World} {c : Nat} {rev fl ks vs : Int} {mp : Value} (h : w.heap[c]? = some (obS rev fl mp ks vs)) (u : Int) : (w.setCell ⟨c, 3, none⟩ (.int .i64 u)).heap[c]? = some (obS rev u mp ks vs) := by
  have := Cn.blk_set h 3 (.int .i64 u); simpa using this
set_option maxRecDepth 100000 in
set_option maxHeartbeats 8000000 in
theorem commit_g (B c a : Nat) (v : ByteArray) (rev fl ks vs r : Int) (mp : Value) (hbv : Bool) (w : World) (Q : World → Prop) (h : w.heap[c]? = some (obS rev fl mp ks vs)) (ha : w.heap[a]? = some (obC v)) (hac : a ≠ c) (hB : B ≤ c) (hk : 0 ≤ ks ∧ ks ≤ 2) (hv : 0 ≤ vs ∧ vs ≤ 8) (hr : 0 ≤ rev ∧ rev ≤ 10) (hre : r = if hbv then ks else ks + 1)
    (HH : Hid (∀ V, Below w.heap.size w V → Calls Try.prog 50 #[.pointer (some ⟨c, 0, none⟩), .string kb] V fun e w' => e = .returned (.bool hbv) ∧ Below V.heap.size V w'))
    (HP : Hid (∀ V, V.heap[c]? = some (obS (rev + 1) fl mp r (vs + 1)) → (∀ k, k < w.heap.size → k ≠ c → V.heap[k]? = w.heap[k]?) → w.heap.size ≤ V.heap.size → Calls Try.prog 36 #[.pointer (some ⟨c, 0, none⟩), .agg #[.string kb, .string v, .bool false]] V fun e w' => e = .returned (.tuple #[]) ∧ Q w' ∧ Below B V w'))
    (HQ : Hid (∀ V, Q V → ∃ mp', V.heap[c]? = some (obS (rev + 1) fl mp' r (vs + 1)))) :
    Calls Try.prog 21 #[.pointer (some ⟨c, 0, none⟩), .slice (some ⟨a, 0, none⟩) 1 1] w fun e w' => e = .returned (.tuple #[.int .i64 (rev + 1), .int .i64 0]) ∧ Q w' ∧ Below B w w' := by
  have hcl : c < w.heap.size := (Array.getElem?_eq_some_iff.1 h).1
  have hal : a < w.heap.size := (Array.getElem?_eq_some_iff.1 ha).1
  have hrr : 0 ≤ r ∧ r ≤ 3 := by cases hbv <;> simp at hre <;> omega
  have HKW : Hid (∀ V, Below w.heap.size w V → Calls Try.prog 35 #[.pointer (some ⟨c, 0, none⟩), .slice (some ⟨a, 0, none⟩) 1 1] V fun e w' => e = .returned (.int .i64 r) ∧ Below V.heap.size V w') := fun V hV =>
    keys_g c a v rev fl ks vs r mp hbv V ((hV.block c hcl).trans h) ((hV.block a hal).trans ha) ⟨hk.1, by omega⟩ hre (Lib.hid fun U hU => HH.out U (btr hV hU))
  have HMY := Lib.hid (may_g c a v rev fl ks vs r mp w h ha hrr hv hr HKW)
  have hq1 : IntKind.i64.wrap (vs + 1) = vs + 1 := by rw [IntKind.wrap_i64]; omega
  have hq2 : IntKind.i64.wrap (rev + 1) = rev + 1 := by rw [IntKind.wrap_i64]; omega
  have HO := Lib.hid h
  have HA := Lib.hid ha
  clear h ha hre hk hv hr hrr
  go_enter Try.func21, Try.ntmps21
  go_upto_region 2 with (go_at_call 20; (with_reducible refine HMY.out.mono ?_); rintro e w1 ⟨rfl, hb1⟩; have HB1 := Lib.hid hb1; clear hb1)
  have HS1 : Hid (w1.heap[c]? = some (obS rev fl mp ks vs)) := (HB1.out.block c hcl).trans HO.out
  have HKX := Lib.hid (HKW.out w1 HB1.out)
  obtain ⟨c0, c1, c2, c3, c4, c5, c6, c7⟩ := cells8 HS1.out
  go_upto_region 4 with (fail)
  clear c0 c1 c2 c3 c4 c5 c6 c7
  go_upto_region 5 with (go_at_call 35; (with_reducible refine HKX.out.mono ?_); rintro e w2 ⟨rfl, hb2⟩; have HB2 := Lib.hid (btr HB1.out hb2); have HS2 : Hid (w2.heap[c]? = some (obS rev fl mp ks vs)) := (hb2.block c (by have := HB1.out.size; omega)).trans HS1.out; obtain ⟨c0, c1, c2, c3, c4, c5, c6, c7⟩ := cells8 HS2.out; have f5 := frz HS2.out 5; clear hb2)
  clear c0 c1 c2 c3 c4 c5 c6 c7 f5
  obtain ⟨W3, hW3⟩ : ∃ W3, W3 = w2.setCell ⟨c, 5, none⟩ (.int .i64 r) := ⟨_, rfl⟩
  have HS3 : Hid (W3.heap[c]? = some (obS rev fl mp r vs)) := by rw [hW3]; exact set5 HS2.out r
  have HW3 := Lib.hid hW3
  rw [← hW3]
  clear hW3
  obtain ⟨c0, c1, c2, c3, c4, c5, c6, c7⟩ := cells8 HS3.out
  have f6 := frz HS3.out 6
  go_upto_region 6 with (fail)
  clear c0 c1 c2 c3 c4 c5 c6 c7 f6
  obtain ⟨W4, hW4⟩ : ∃ W4, W4 = W3.setCell ⟨c, 6, none⟩ (.int .i64 (vs + 1)) := ⟨_, rfl⟩
  have HS4 : Hid (W4.heap[c]? = some (obS rev fl mp r (vs + 1))) := by rw [hW4]; exact set6v HS3.out (vs + 1)
  have HW4 := Lib.hid hW4
  rw [← hW4]
  clear hW4
  obtain ⟨c0, c1, c2, c3, c4, c5, c6, c7⟩ := cells8 HS4.out
  have f2 := frz HS4.out 2
  go_upto_region 7 with (fail)
  clear c0 c1 c2 c3 c4 c5 c6 c7 f2
  obtain ⟨W5, hW5⟩ : ∃ W5, W5 = W4.setCell ⟨c, 2, none⟩ (.int .i64 (rev + 1)) := ⟨_, rfl⟩
  have HS5 : Hid (W5.heap[c]? = some (obS (rev + 1) fl mp r (vs + 1))) := by rw [hW5]; exact set2r HS4.out (rev + 1)
  have hz5 : W5.heap.size = w2.heap.size := by rw [hW5, HW4.out, HW3.out]; simp [World.setCell]
  have o5 : ∀ k, k ≠ c → W5.heap[k]? = w2.heap[k]? := fun k hk => by
    rw [hW5, set_oth _ _ _ _ hk, HW4.out, set_oth _ _ _ _ hk, HW3.out, set_oth _ _ _ _ hk]
  have HB5 : Hid (Below B w W5) := by
    have h2 : Below B w w2 := HB2.out.mono (by omega)
    rw [hW5, HW4.out, HW3.out]
    exact Lib.hid (((h2.trans (bel_set _ hB 5 _)).trans (bel_set _ hB 6 _)).trans (bel_set _ hB 2 _))
  have HA5 : Hid (W5.heap[a]? = some (obC v)) := ((o5 a hac).trans (HB2.out.block a hal)).trans HA.out
  have HO5 : Hid (∀ k, k < w.heap.size → k ≠ c → W5.heap[k]? = w.heap[k]?) := fun k h1 h2 => (o5 k h2).trans (HB2.out.block k h1)
  have hzz : w.heap.size ≤ W5.heap.size := by have := HB2.out.size; omega
  rw [← hW5]
  clear hW5 HW3 HW4 o5 hz5
  go_wp2
  go_loopw [39] (fun iv wr => ∃ j : Nat, j ≤ 1 ∧ iv = .int .i64 (j : Int) ∧ Hid (j = 0 → wr = W5) ∧ Hid (j = 1 → Q wr ∧ Below B w wr)) (fun iv _ => 1 - (intOf iv).toNat)
  case atStart => exact ⟨0, by omega, rfl, Lib.hid (fun _ => rfl), Lib.hid (fun e => by cases e)⟩
  case round =>
    obtain ⟨j, hj, rfl, HX, HY⟩ := hrel
    by_cases hj0 : j = 0
    · subst hj0
      obtain rfl := HX.out rfl
      obtain ⟨a0, a1, a2⟩ := Cn.cells3 HA5.out
      obtain ⟨W7, hW7, hk7, hb7⟩ := Cn.new3 wr (.string kb) (.string v) (.bool false) 80
      have HW7 := Lib.hid hW7
      obtain ⟨x0, x1, x2⟩ := Cn.cells3 hk7
      have HPP := Lib.hid (HP.out W7 ((hb7.block c (by omega)).trans HS5.out) (fun k h1 h2 => (hb7.block k (by omega)).trans (HO5.out k h1 h2)) (Nat.le_trans hzz hb7.size))
      have HB7 : Hid (Below B w W7) := HB5.out.trans (hb7.mono (by omega))
      clear hW7 hk7 hb7
      go_upto_region 10 with (fail)
      rw [← HW7.out]
      go_wp2_with (go_at_call 36; (with_reducible refine HPP.out.mono ?_); rintro e w8 ⟨rfl, hq8, hb8⟩; have HQ8 : Hid (Q w8 ∧ Below B w w8) := ⟨hq8, HB7.out.trans hb8⟩; clear hq8 hb8)
      go_roundw
      case rel => exact ⟨1, by omega, by go_num, Lib.hid (fun e => by cases e), Lib.hid (fun _ => HQ8.out)⟩
      case measure => simp [intOf]
    · obtain rfl : j = 1 := by omega
      obtain ⟨hq, hb⟩ := HY.out rfl
      obtain ⟨mp', hs⟩ := HQ.out wr hq
      have HQQ : Hid (Q wr ∧ Below B w wr) := ⟨hq, hb⟩
      obtain ⟨c0, c1, c2, c3, c4, c5, c6, c7⟩ := cells8 hs
      clear hq hb hs HX HY
      go_wp2
      exact bodyPost_ret (v := .tuple #[.int .i64 (rev + 1), .int .i64 0]) (by simp [results, Try.results21, go_sem]) rfl ⟨rfl, HQQ.out⟩
end Go.Proofs.Ytjceofkcahfhmaa.Mv
namespace Go.Proofs.Ytjceofkcahfhmaa.Mv
open Go.RowKit Go.Lib Go.Maps
open Go.Proofs.Ytjceofkcahfhmaa.Cn
set_option linter.unusedSimpArgs false
set_option linter.unusedVariables false

set_option maxRecDepth 100000 in
set_option maxHeartbeats 2000000 in
theorem New_m (w : World) : Calls Try.prog 6 #[.agg #[.int .i64 3, .int .i64 9]] w fun e w' => e = .returned (.pointer (some ⟨w.heap.size + 1, 0, none⟩)) ∧ w'.heap[w.heap.size + 1]? = some (obS 0 0 (.map none) 0 0) ∧ Below w.heap.size w w' := by
  obtain ⟨W0, hW0⟩ : ∃ W0, W0 = w.alloc (.cells #[.int .i64 3, .int .i64 9] 26) := ⟨_, rfl⟩
  have hk0 : W0.heap[w.heap.size]? = some (.cells #[.int .i64 3, .int .i64 9] 26 (0, 0)) := by rw [hW0]; exact heap_alloc_new w _
  have hb0 : Below w.heap.size w W0 := by rw [hW0]; exact (Below.refl _ _).alloc (Nat.le_refl _) _
  have hz0 : W0.heap.size = w.heap.size + 1 := by rw [hW0]; simp
  obtain ⟨W1, hW1⟩ : ∃ W1, W1 = W0.alloc (obS 0 0 (.map none) 0 0) := ⟨_, rfl⟩
  have hk1 : W1.heap[w.heap.size + 1]? = some (obS 0 0 (.map none) 0 0) := by rw [hW1, ← hz0]; exact heap_alloc_new W0 _
  have HB1 : Hid (Below w.heap.size w W1) := by rw [hW1]; exact Lib.hid (hb0.alloc hb0.size _)
  have x0 := cell_of_row _ _ 0 _ _ _ hk0
  have x1 := cell_of_row _ _ 1 _ _ _ hk0
  have HK1 := Lib.hid hk1
  have HW0 := Lib.hid hW0
  have HW1 := Lib.hid hW1
  have HZ0 := Lib.hid hz0
  clear hk0 hb0 hz0 hk1 hW0 hW1
  go_enter Try.func6, Try.ntmps6
  go_upto_region 1 with (fail)
  rw [← HW0.out]
  go_wp2
  rw [← HW1.out]
  go_ret
  exact ⟨by simp [Array.getD]; exact HZ0.out, HK1.out, HB1.out⟩
set_option maxRecDepth 100000 in
set_option maxHeartbeats 2000000 in
theorem ref_ok (c : Nat) (rev fl ks vs q : Int) (mp : Value) (w : World) (h : w.heap[c]? = some (obS rev fl mp ks vs)) (h0 : 0 ≤ q) (h1 : q ≤ rev) (h2 : fl ≤ q) : Calls Try.prog 28 #[.pointer (some ⟨c, 0, none⟩), .int .i64 q] w fun e w' => e = .returned (.int .i64 0) ∧ w' = w := by
  obtain ⟨c0, c1, c2, c3, c4, c5, c6, c7⟩ := cells8 h
  have d0 : ¬ q < 0 := by omega
  have d1 : ¬ q > rev := by omega
  have d2 : ¬ q < fl := by omega
  clear h
  go_enter Try.func28, Try.ntmps28
  go_wp2
  go_ret
  exact ⟨rfl, rfl⟩
set_option maxRecDepth 100000 in
set_option maxHeartbeats 2000000 in
theorem ref_gone (c : Nat) (rev fl ks vs q : Int) (mp : Value) (w : World) (h : w.heap[c]? = some (obS rev fl mp ks vs)) (h0 : 0 ≤ q) (h1 : q ≤ rev) (h2 : q < fl) : Calls Try.prog 28 #[.pointer (some ⟨c, 0, none⟩), .int .i64 q] w fun e w' => e = .returned (.int .i64 9) ∧ w' = w := by
  obtain ⟨c0, c1, c2, c3, c4, c5, c6, c7⟩ := cells8 h
  have d0 : ¬ q < 0 := by omega
  have d1 : ¬ q > rev := by omega
  clear h
  go_enter Try.func28, Try.ntmps28
  go_wp2
  go_ret
  exact ⟨rfl, rfl⟩
theorem ref_nil (q : Int) (w : World) : Calls Try.prog 28 #[.pointer none, .int .i64 q] w fun e w' => e = .returned (.int .i64 2) ∧ w' = w := by
  go_enter Try.func28, Try.ntmps28
  go_wp2
  go_ret
  exact ⟨rfl, rfl⟩
/-- Get where it is refused -/
theorem get_no (p : Value) (key : ByteArray) (q r : Int) (w : World) (hr : r ≠ 0) (HR : Hid (∀ W, Below w.heap.size w W → Calls Try.prog 28 #[p, .int .i64 q] W fun e w' => e = .returned (.int .i64 r) ∧ w' = W)) :
    Calls Try.prog 25 #[p, .string key, .int .i64 q] w fun e w' => e = .returned (.tuple #[.agg #[.string ⟨#[]⟩, .string ⟨#[]⟩, .int .i64 0], .int .i64 r]) ∧ Below w.heap.size w w' := by
  obtain ⟨W0, hW0, hk0, hb0⟩ := Cn.new3 w (.string ⟨#[]⟩) (.string ⟨#[]⟩) (.int .i64 0) 49
  have HW0 := Lib.hid hW0
  have HB0 := Lib.hid hb0
  have HRR := Lib.hid (HR.out W0 hb0)
  have e1 : (r != 0) = true := by simpa using hr
  obtain ⟨y0, y1, y2⟩ := Cn.cells3 hk0
  have z0 := frz hk0 0
  have z1 := frz hk0 1
  have z2 := frz hk0 2
  have HH := Lib.hid (st3 hk0 (.string ⟨#[]⟩) (.string ⟨#[]⟩) (.int .i64 0))
  have HBF := Lib.hid (hb0.trans (bel_set3 (B := w.heap.size) (r := w.heap.size) W0 (Nat.le_refl _) (.string ⟨#[]⟩) (.string ⟨#[]⟩) (.int .i64 0)))
  clear hW0 hk0 hb0 hr
  go_enter Try.func25, Try.ntmps25
  go_upto_region 1 with (fail)
  rw [← HW0.out]
  go_wp2_with (go_at_call 28; (with_reducible refine HRR.out.mono ?_); rintro e w1 ⟨rfl, rfl⟩)
  obtain ⟨d0, d1, d2⟩ := Cn.cells3 HH.out
  clear y0 y1 y2 z0 z1 z2
  (with_reducible refine bodyPost_ret (v := .tuple #[.agg #[.string ⟨#[]⟩, .string ⟨#[]⟩, .int .i64 0], .int .i64 r]) (by simp [results, Try.results25, go_sem, d0, d1, d2]) rfl ⟨rfl, HBF.out⟩)
set_option maxRecDepth 100000 in
set_option maxHeartbeats 2000000 in
theorem get_ok {B c b d N : Nat} {gb : Option Nat} {l : List Ver} {rev fl vs : Int} {w : World} (q : Int) (h : S1 B c b d N gb l rev fl vs w) (hN : N ≤ 1000) (h0 : 0 ≤ q) (h1 : q ≤ rev) (h2 : fl ≤ q) (ha : atB l q = true) :
    Calls Try.prog 25 #[.pointer (some ⟨c, 0, none⟩), .string kb, .int .i64 q] w fun e w' => e = .returned (.tuple #[.agg #[.string kb, .string (atV l q).2.1, .int .i64 (atV l q).1], .int .i64 0]) ∧ Below w.heap.size w w' := by
  obtain ⟨W0, hW0, hk0, hb0⟩ := Cn.new3 w (.string ⟨#[]⟩) (.string ⟨#[]⟩) (.int .i64 0) 49
  have hz0 : w.heap.size < W0.heap.size := (Array.getElem?_eq_some_iff.1 hk0).1
  have H0 := Lib.hid (h.kept hb0)
  have HW0 := Lib.hid hW0
  have HB0 := Lib.hid hb0
  have HK0 := Lib.hid hk0
  have HR := Lib.hid (ref_ok c rev fl 1 vs q _ W0 H0.out.hs h0 h1 h2)
  have HA := Lib.hid (At_c B d N gb l q W0 H0.out.hc (by omega) H0.out.asc)
  rw [ha] at HA
  unfold vb aggV at HA
  have hld := H0.out.hm.look
  clear hW0 hk0 hb0 h h0 h1 h2 ha
  obtain ⟨⟨r, t, g⟩, hx⟩ : ∃ x, atV l q = x := ⟨_, rfl⟩
  rw [hx] at HA
  rw [hx]
  dsimp only at HA ⊢
  go_enter Try.func25, Try.ntmps25
  go_upto_region 1 with (fail)
  rw [← HW0.out]
  go_upto_region 2 with (go_at_call 28; (with_reducible refine HR.out.mono ?_); rintro e w1 ⟨rfl, rfl⟩)
  obtain ⟨c0, c1, c2, c3, c4, c5, c6, c7⟩ := cells8 H0.out.hs
  go_upto_region 5 with (go_at_call 31; (with_reducible refine HA.out.mono ?_); rintro e w2 ⟨rfl, hb2⟩; have HB2 := Lib.hid hb2; clear hb2)
  clear c0 c1 c2 c3 c4 c5 c6 c7
  obtain ⟨W3, hW3, hk3, hb3⟩ := Cn.new3 w2 (.int .i64 r) (.string t) (.bool g) 75
  have HW3 := Lib.hid hW3
  have HK3 : Hid (W3.heap[w.heap.size]? = some (.cells #[.string ⟨#[]⟩, .string ⟨#[]⟩, .int .i64 0] 49 (0, 0))) := (hb3.block _ (by have := HB2.out.size; omega)).trans ((HB2.out.block _ hz0).trans HK0.out)
  have HB3 : Hid (Below w.heap.size w W3) := btr HB0.out (btr HB2.out hb3)
  obtain ⟨x0, x1, x2⟩ := Cn.cells3 hk3
  obtain ⟨y0, y1, y2⟩ := Cn.cells3 HK3.out
  have z0 := frz HK3.out 0
  have z1 := frz HK3.out 1
  have z2 := frz HK3.out 2
  have HH := Lib.hid (st3 HK3.out (.string kb) (.string t) (.int .i64 r))
  have HBF := Lib.hid (HB3.out.trans (bel_set3 (B := w.heap.size) (r := w.heap.size) W3 (Nat.le_refl _) (.string kb) (.string t) (.int .i64 r)))
  clear hW3 hk3 hb3
  rw [← HW3.out]
  go_wp2
  obtain ⟨d0, d1, d2⟩ := Cn.cells3 HH.out
  clear y0 y1 y2 z0 z1 z2 x0 x1 x2
  (with_reducible refine bodyPost_ret (v := .tuple #[.agg #[.string kb, .string t, .int .i64 r], .int .i64 0]) (by simp [results, Try.results25, go_sem, d0, d1, d2]) rfl ⟨rfl, HBF.out⟩)
end Go.Proofs.Ytjceofkcahfhmaa.Mv
