/- A store of many versions with one key or none, as it lies; has, right at one change; no other condition. -/
import Derived.Test.YthioghbifpphiaaCnN
import Derived.Maps.OwnSet
import Derived.Maps.RangeWalk
import Derived.Deep.AppendLies
import Derived.Deep.RegionLaw
import Derived.Deep.QuietTactic
import Derived.BigQuiet
import Derived.Deep.Cut
import Derived.Deep.RegionWith
import Derived.Deep.RegionHeld3
import Derived.StringKeys
namespace Go.Proofs.Ythioghbifpphiaa.Mv
open Go.RowKit Go.Lib Go.Maps
open Go.Proofs.Ythioghbifpphiaa.Cn
set_option linter.unusedSimpArgs false
set_option linter.unusedVariables false

abbrev kb : ByteArray := ⟨#[97]⟩
abbrev kl : Lit := .string [97]
abbrev obS (rev fl : Int) (mp : Value) (ks vs : Int) : Obj := .cells #[.int .i64 3, .int .i64 9, .int .i64 rev, .int .i64 fl, mp, .int .i64 ks, .int .i64 vs, .slice none 0 0] 64
theorem cells8 {w : World} {g : Nat} {a0 a1 a2 a3 a4 a5 a6 a7 : Value} {t : TypeId} (h : w.heap[g]? = some (.cells #[a0, a1, a2, a3, a4, a5, a6, a7] t (0, 0))) : w.cell? ⟨g, 0, none⟩ = some a0 ∧ w.cell? ⟨g, 1, none⟩ = some a1 ∧ w.cell? ⟨g, 2, none⟩ = some a2 ∧ w.cell? ⟨g, 3, none⟩ = some a3 ∧ w.cell? ⟨g, 4, none⟩ = some a4 ∧ w.cell? ⟨g, 5, none⟩ = some a5 ∧ w.cell? ⟨g, 6, none⟩ = some a6 ∧ w.cell? ⟨g, 7, none⟩ = some a7 :=
  ⟨cell_of_row _ _ 0 _ _ _ h, cell_of_row _ _ 1 _ _ _ h, cell_of_row _ _ 2 _ _ _ h, cell_of_row _ _ 3 _ _ _ h, cell_of_row _ _ 4 _ _ _ h, cell_of_row _ _ 5 _ _ _ h, cell_of_row _ _ 6 _ _ _ h, cell_of_row _ _ 7 _ _ _ h⟩
theorem bdr (W : World) : Below W.heap.size W W.drew := (Below.refl _ _).drew
theorem btr {a b d : World} (h : Below a.heap.size a b) (k : Below b.heap.size b d) : Below a.heap.size a d := h.trans (k.mono h.size)
/-- how a pointer to a chain reads in the map -/
def pd (c : Int) : DataW Unit := .lit (.int .i64 c)
def ptrE : Value → Option (DataW Unit × List MemPlace)
  | .pointer none => some (pd (-1), [])
  | .pointer (some a) => if a = ⟨a.block, 0, none⟩ then some (pd (a.block : Int), []) else none
  | _ => none
theorem ptrE_nil : ptrE (.pointer none) = some (pd (-1), []) := rfl
theorem ptrE_mk (c : Nat) : ptrE (.pointer (some ⟨c, 0, none⟩)) = some (pd (c : Int), []) := by unfold ptrE; simp
theorem ptrE_inv {v : Value} {c : Nat} {ps : List MemPlace} (h : ptrE v = some (pd (c : Int), ps)) : v = .pointer (some ⟨c, 0, none⟩) := by
  unfold ptrE at h
  split at h
  · unfold pd at h
    injection h with h; injection h with h _; injection h with h; injection h with _ h; omega
  · rename_i a
    split at h
    · rename_i e
      unfold pd at h
      injection h with h; injection h with h _; injection h with h; injection h with _ h
      have : a.block = c := by omega
      rw [e, this]
    · cases h
  · cases h
/-- the map with the one key -/
def dOne (c : Nat) : DataW Unit := (DataW.map []).put kl (pd (c : Int))
def MapP (b c : Nat) (w : World) : Prop := w.ownsMap Try.prog 9 ptrE b 1 (dOne c)
theorem MapP.lt {b c : Nat} {w : World} (h : MapP b c w) : b < w.heap.size := World.ownsMap.lt h
theorem MapP.keep {b c : Nat} {w w' : World} (h : MapP b c w) (hb : w'.heap[b]? = w.heap[b]?) : MapP b c w' := by
  obtain ⟨es, clock, h1, h2⟩ := h
  exact ⟨es, clock, hb.trans h1, h2⟩
theorem law : Keyed Try.prog 9 := string_keyed Try.underlying9
theorem keyA : keyOf Try.prog 9 (.string kb) = some kl := Go.WideMaps.keyOf_string_mk Try.underlying9 (by decide)
theorem zeroP (w : World) : (zeroValue 80).run Try.prog w = .ok (.pointer none) w := Try.zeroValue80 w
theorem MapP.look {b c : Nat} {w : World} (h : MapP b c w) : (Instr.lookup 62 (.map (some b)) (.string kb) false).run Try.prog w = .ok (.pointer (some ⟨c, 0, none⟩)) w := by
  obtain ⟨v, ps, hr, hv⟩ := World.ownsMap.lookup h law Try.underlying62 (zeroP w) ptrE_nil keyA
  have e : (dOne c).atKey kl (pd (-1)) = pd (c : Int) := rfl
  rw [e] at hv
  rw [hr, ptrE_inv hv]
theorem look0 (w : World) : (Instr.lookup 62 (.map none) (.string kb) false).run Try.prog w = .ok (.pointer none) w :=
  Maps.look_nil false law Try.underlying62 (zeroP w) keyA
theorem map_new {w : World} {b c : Nat} (h : w.ownsMap Try.prog 9 ptrE b 0 (.map [])) : ∃ w', (Instr.mapUpdate 62 (.map (some b)) (.string kb) (.pointer (some ⟨c, 0, none⟩))).run Try.prog w = .ok () w' ∧ MapP b c w' ∧ w.grownBy w' (some b) :=
  World.ownsMap.update h law Try.underlying62 (by decide) keyA (ptrE_mk c)
/-- one with the one key: store c, map b, chain d -/
structure S1 (B c b d N : Nat) (gb : Option Nat) (l : List Ver) (rev fl vs : Int) (w : World) : Prop where
  hs : w.heap[c]? = some (obS rev fl (.map (some b)) 1 vs)
  hm : MapP b d w
  hc : IsCh B d N gb l w
  cb : c ≠ b
  cd : c ≠ d
  bd : b ≠ d
  gc : gb ≠ some c
  gb' : gb ≠ some b
  asc : Asc l
  lo : B ≤ c ∧ B ≤ b ∧ B ≤ d
theorem S1.kept {B c b d N : Nat} {gb : Option Nat} {l : List Ver} {rev fl vs : Int} {w w' : World} (h : S1 B c b d N gb l rev fl vs w) (hb : Below w.heap.size w w') : S1 B c b d N gb l rev fl vs w' :=
  ⟨(hb.block _ (Array.getElem?_eq_some_iff.1 h.hs).1).trans h.hs, h.hm.keep (hb.block _ h.hm.lt), h.hc.go hb, h.cb, h.cd, h.bd, h.gc, h.gb', h.asc, h.lo⟩
abbrev obZ : Obj := .cells #[.int .i64 0, .string ⟨#[]⟩, .bool false] 78
theorem bel_set3 {B r : Nat} (W : World) (h : B ≤ r) (x y z : Value) : Below B W (((W.setCell ⟨r, 0, none⟩ x).setCell ⟨r, 1, none⟩ y).setCell ⟨r, 2, none⟩ z) := by
  refine ⟨rfl, rfl, rfl, by simp [World.setCell], fun k hk => ?_⟩
  have hn : k ≠ r := by omega
  rw [Below.heap_setCell _ _ _ _ hn, Below.heap_setCell _ _ _ _ hn, Below.heap_setCell _ _ _ _ hn]
set_option maxRecDepth 100000 in
set_option maxHeartbeats 4000000 in
theorem has_g (c : Nat) (mp pv : Value) (rev fl ks vs r : Int) (t : ByteArray) (g b : Bool) (w : World) (h : w.heap[c]? = some (obS rev fl mp ks vs))
    (HL : Hid (∀ V, Below w.heap.size w V → (Instr.lookup 62 mp (.string kb) false).run Try.prog V = .ok pv V))
    (HA : Hid (∀ V, Below w.heap.size w V → Calls Try.prog 32 #[pv, .int .i64 rev] V fun e w' => e = .returned (.tuple #[.agg #[.int .i64 r, .string t, .bool g], .bool b]) ∧ Below V.heap.size V w')) :
    Calls Try.prog 50 #[.pointer (some ⟨c, 0, none⟩), .string kb] w fun e w' => e = .returned (.bool b) ∧ Below w.heap.size w w' := by
  obtain ⟨W1, hW1, hk1, hb1⟩ := new3 w (.int .i64 0) (.string ⟨#[]⟩) (.bool false) 78
  have hcl : c < w.heap.size := (Array.getElem?_eq_some_iff.1 h).1
  have hz1 : w.heap.size < W1.heap.size := (Array.getElem?_eq_some_iff.1 hk1).1
  have HSK : Hid (∀ V : World, Below w.heap.size w V → V.cell? ⟨c, 4, none⟩ = some mp ∧ V.cell? ⟨c, 2, none⟩ = some (.int .i64 rev)) := fun V hV => by
    have h := (hV.block c hcl).trans h
    exact ⟨cell_of_row _ _ 4 _ _ _ h, cell_of_row _ _ 2 _ _ _ h⟩
  obtain ⟨c4, c2⟩ := HSK.out w (Below.refl _ _)
  have HKA := Lib.hid (HSK.out w.drew (bdr w))
  have HKB := Lib.hid (HSK.out W1.drew (btr hb1 (bdr W1)))
  rw [hW1] at HKB
  have HK1 := Lib.hid hk1
  have HB1 := Lib.hid hb1
  have HW1 := Lib.hid hW1
  have l0 := HL.out w.drew (bdr w)
  have l1 := HL.out W1.drew (btr hb1 (bdr W1))
  rw [hW1] at l1
  clear h hW1 hk1 hb1
  go_enter Try.func50, Try.ntmps50
  go_upto_region 1 with (fail)
  go_region_held3 (fun V => V.cell? ⟨c, 4, none⟩ = some mp ∧ V.cell? ⟨c, 2, none⟩ = some (.int .i64 rev))
    (first | (with_reducible exact HKA.out) | (with_reducible exact HKB.out) | (with_reducible exact HK3.out) | (with_reducible exact HK3a.out) | (with_reducible exact HK3r.out) | (with_reducible exact HK3s.out) | (with_reducible exact HK4.out) | (with_reducible exact HK4s.out))
    (first
      | (go_at_call 32; (with_reducible refine (HA.out w.drew (bdr w)).mono ?_); rintro e w3 ⟨rfl, hb3⟩; have hb3' : Below w.heap.size w w3 := ⟨hb3.os, hb3.tape, hb3.output, hb3.size, hb3.block⟩; have HB3 := Lib.hid hb3'; have hs3 := hb3'.size; have HK3 := Lib.hid (HSK.out w3 hb3'); have HK3a := Lib.hid (HSK.out (w3.alloc obZ) (hb3'.alloc hb3'.size _)); have HK3r := Lib.hid (HSK.out (w3.alloc (.cells #[.int .i64 r, .string t, .bool g] 78)) (hb3'.alloc hb3'.size _)); have HK3s := Lib.hid (HSK.out _ ((hb3'.alloc hb3'.size obZ).trans (bel_set3 (B := w.heap.size) (r := w3.heap.size) (w3.alloc obZ) hb3'.size (.int .i64 r) (.string t) (.bool g)))); clear hb3 hb3')
      | (go_at_call 32; rw [← HW1.out]; (with_reducible refine (HA.out W1.drew (btr HB1.out (bdr W1))).mono ?_); rintro e w4 ⟨rfl, hb4⟩; have hb4' : Below W1.heap.size W1 w4 := ⟨hb4.os, hb4.tape, hb4.output, hb4.size, hb4.block⟩; have hb04 : Below w.heap.size w w4 := btr HB1.out hb4'; have HN4 : Hid (w4.heap[w.heap.size]? = some obZ) := (hb4'.block _ hz1).trans HK1.out; have HB4 := Lib.hid hb04; have n0 := cell_of_row _ _ 0 _ _ _ HN4.out; have n1 := cell_of_row _ _ 1 _ _ _ HN4.out; have n2 := cell_of_row _ _ 2 _ _ _ HN4.out; have f0 := frz HN4.out 0; have f1 := frz HN4.out 1; have f2 := frz HN4.out 2; have HK4 := Lib.hid (HSK.out w4 hb04); have HK4s := Lib.hid (HSK.out _ (hb04.trans (bel_set3 (B := w.heap.size) (r := w.heap.size) w4 (Nat.le_refl _) (.int .i64 r) (.string t) (.bool g)))); clear hb4 hb4' hb04))
  all_goals
    first
      | (have HBX := Lib.hid (HB3.out.alloc HB3.out.size (.cells #[.int .i64 r, .string t, .bool g] 78)); go_wp2; go_ret; exact ⟨rfl, HBX.out⟩)
      | (have HBX := Lib.hid (HB4.out.trans (bel_set3 (B := w.heap.size) (r := w.heap.size) w4 (Nat.le_refl _) (.int .i64 r) (.string t) (.bool g))); go_wp2; go_ret; exact ⟨rfl, HBX.out⟩)
theorem has_0 (c : Nat) (rev fl ks vs : Int) (w : World) (h : w.heap[c]? = some (obS rev fl (.map none) ks vs)) : Calls Try.prog 50 #[.pointer (some ⟨c, 0, none⟩), .string kb] w fun e w' => e = .returned (.bool false) ∧ Below w.heap.size w w' :=
  has_g c (.map none) (.pointer none) rev fl ks vs 0 ⟨#[]⟩ false false w h (Lib.hid fun V _ => look0 V) (Lib.hid fun V _ => At_nil rev V)
theorem has_1 {B c b d N : Nat} {gb : Option Nat} {l : List Ver} {rev fl vs : Int} {w : World} (h : S1 B c b d N gb l rev fl vs w) (hN : N ≤ 1000000) : Calls Try.prog 50 #[.pointer (some ⟨c, 0, none⟩), .string kb] w fun e w' => e = .returned (.bool (atB l rev)) ∧ Below w.heap.size w w' :=
  has_g c (.map (some b)) (.pointer (some ⟨d, 0, none⟩)) rev fl 1 vs (atV l rev).1 (atV l rev).2.1 (atV l rev).2.2 (atB l rev) w h.hs (Lib.hid fun V hV => (h.kept hV).hm.look) (Lib.hid fun V hV => At_c B d N gb l rev V (h.kept hV).hc hN h.asc)
end Go.Proofs.Ythioghbifpphiaa.Mv
