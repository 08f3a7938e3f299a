/- The contract of package reply's Parse, put together of its ways: for texts of which lines, fields and numbers are within bounds, where the library's variable MaxLen holds a number and its tables lie as the program's text lays them. -/
import Derived.Test.YtolfenachbbjdaaDoorRpM
namespace Go.Proofs.YtolfenachbbjdaaDoor.Rp
open Go.RowKit Ch Hd
set_option linter.unusedSimpArgs false
set_option linter.unusedVariables false

def lastL (ps : List ByteArray) : ByteArray := ps.getD (ps.length - 1) ⟨#[]⟩
def topB (s : ByteArray) : ByteArray := mkS (Lib.cut s.data.toList endE).1
def bhB (s : ByteArray) : ByteArray := mkS (Lib.cut s.data.toList endE).2.1
/-- what Parse makes of a text -/
def parL (s : ByteArray) : Except Int (Int × List FB × ByteArray × Nat) :=
  if (Lib.cut s.data.toList endE).2.2 = false then .error 11 else
  match lenL (lastL (spl (topB s))).data.toList (bhB s).size with
  | none => .error 11
  | some m => match ofLnL (spl (topB s)) ((bhB s).extract 0 m.toNat) with
    | none => .error 3
    | some x => if rightB x.1 x.2.1 x.2.2 = false then .error 3 else
      if Lib.hasPrefix s.data.toList (encL x.1 x.2.1 x.2.2) = false then .error 3 else .ok (x.1, x.2.1, x.2.2, (encL x.1 x.2.1 x.2.2).length)
def PaQ (B : Nat) (q : Except Int (Int × List FB × ByteArray × Nat)) (e : Ending) (w' : World) : Prop := match q with
  | .error st => e = .returned (.tuple #[.agg #[.int .i64 0, .slice none 0 0, .string ⟨#[]⟩], .int .i64 0, .int .i64 st])
  | .ok x => ∃ aq cq, e = .returned (.tuple #[.agg #[.int .i64 x.1, .slice aq x.2.1.length cq, .string x.2.2.1], .int .i64 (x.2.2.2 : Int), .int .i64 0]) ∧ OwF 61 B (.slice aq x.2.1.length cq) x.2.1 w'
theorem paq_no {B : Nat} {q : Except Int (Int × List FB × ByteArray × Nat)} {st : Int} {e : Ending} {w' : World} (hq : q = .error st) (he : e = .returned (.tuple #[.agg #[.int .i64 0, .slice none 0 0, .string ⟨#[]⟩], .int .i64 0, .int .i64 st])) : PaQ B q e w' := by subst hq; exact he
theorem paq_ok {B : Nat} {q : Except Int (Int × List FB × ByteArray × Nat)} {x : Int × List FB × ByteArray × Nat} {e : Ending} {w' : World} (hq : q = .ok x) {aq : Option Addr} {cq : Nat} (he : e = .returned (.tuple #[.agg #[.int .i64 x.1, .slice aq x.2.1.length cq, .string x.2.2.1], .int .i64 (x.2.2.2 : Int), .int .i64 0])) (ho : OwF 61 B (.slice aq x.2.1.length cq) x.2.1 w') : PaQ B q e w' := by subst hq; exact ⟨aq, cq, he, ho⟩
theorem len_bd {l : List UInt8} {c m : Int} (h : lenL l c = some m) (hc : 0 ≤ c) : 0 ≤ m ∧ m ≤ c := by
  unfold lenL at h
  split at h
  · injection h with h; omega
  · rename_i z _
    have hb := Nu.rdN_bd 10 2147483647 (.inl rfl) (by decide) z.2
    split at h
    · split at h
      · cases h
      · rename_i hn
        injection h with h
        have h1 : ¬ c < rN z.2 := fun e => hn (.inr e)
        have h2 : 0 ≤ rN z.2 := hb.1
        omega
    · injection h with h; omega
theorem flds_bd (M : Nat) : ∀ (ls : List ByteArray) (acc fs : List FB), fldsA acc ls = some fs → (∀ l ∈ ls, l.size ≤ M) → (∀ f ∈ acc, f.1.size ≤ M ∧ f.2.size ≤ M) → (∀ f ∈ fs, f.1.size ≤ M ∧ f.2.size ≤ M) ∧ fs.length = acc.length + ls.length
  | [], acc, fs, h, _, ha => by
    rw [flds_nil] at h
    obtain rfl := Option.some.inj h
    exact ⟨ha, by simp⟩
  | l :: r, acc, fs, h, hl, ha => by
    cases hz : ofL l.data.toList with
    | none => rw [flds_no hz] at h; cases h
    | some z =>
      rw [flds_yes hz] at h
      have hb := of_len hz
      have hs := hl l (List.mem_cons_self ..)
      have hse := Lib.size_eq l
      obtain ⟨h1, h2⟩ := flds_bd M r _ fs h (fun x hx => hl x (List.mem_cons_of_mem _ hx)) (fun f hf => by
        rcases List.mem_append.1 hf with g | g
        · exact ha f g
        · obtain rfl : f = (mkS z.1, mkS z.2) := by simpa using g
          exact ⟨by show (mkS z.1).size ≤ M; rw [size_mkS]; omega, by show (mkS z.2).size ≤ M; rw [size_mkS]; omega⟩)
      refine ⟨h1, ?_⟩
      simp only [List.length_append, List.length_cons, List.length_nil] at h2 ⊢
      omega
theorem ofBody_sz (n : Int) (b : ByteArray) : (ofBody n b).size ≤ b.size := by
  unfold ofBody
  split
  · exact Nat.zero_le _
  · exact Nat.le_refl _
theorem lns_mem {n : Int} {r : List ByteArray} {l : ByteArray} (h : l ∈ lnsL n r) : l ∈ r := by
  unfold lnsL at h
  split at h
  · exact h
  · exact List.mem_of_mem_take h
theorem lns_len (n : Int) (r : List ByteArray) : (lnsL n r).length ≤ r.length := by
  unfold lnsL
  split
  · exact Nat.le_refl _
  · rw [List.length_take]; omega
theorem ol_bd {ps : List ByteArray} {body : ByteArray} {x : Int × List FB × ByteArray} (h : ofLnL ps body = some x) : 0 ≤ x.1 ∧ x.1 ≤ 2147483647 ∧ x.2.2.size ≤ body.size ∧ ∃ ls : List ByteArray, fldsA [] ls = some x.2.1 ∧ (∀ l ∈ ls, l ∈ ps) ∧ ls.length ≤ ps.length := by
  match ps, h with
  | p :: r, h =>
    rw [ol_cons] at h
    split at h
    · cases h
    split at h
    · cases h
    cases hf : fldsA [] (lnsL (rN (cutP 32 (Lib.trimPrefix p.data.toList verL)).1) r) with
    | none => rw [hf] at h; cases h
    | some fs =>
      rw [hf] at h
      injection h with h
      have hb := Nu.rdN_bd 10 2147483647 (.inl rfl) (by decide) (cutP 32 (Lib.trimPrefix p.data.toList verL)).1
      rw [← h]
      exact ⟨hb.1, hb.2, ofBody_sz _ _, _, hf, fun l hl => List.mem_cons_of_mem _ (lns_mem hl), by rw [List.length_cons]; have := lns_len (rN (cutP 32 (Lib.trimPrefix p.data.toList verL)).1) r; omega⟩
/-- a text whose parts are within bounds -/
def PaOk (s : ByteArray) : Prop := s.size ≤ 1500000 ∧ ((Lib.cut s.data.toList endE).2.2 = true → (spl (topB s)).length ≤ 1000000 ∧ (∀ z, ofL (lastL (spl (topB s))).data.toList = some z → lowL z.1 = clL → z.2.length ≤ 1000) ∧ (∀ p r, spl (topB s) = p :: r → (cutP 32 (Lib.trimPrefix p.data.toList verL)).1.length ≤ 1000) ∧
  ∀ m x, ofLnL (spl (topB s)) ((bhB s).extract 0 m) = some x → (x.2.1.flatMap fldB).length ≤ 40000000)
theorem cut_sz (s : ByteArray) : (topB s).size ≤ s.size ∧ (bhB s).size ≤ s.size := by
  have hl := Lib.size_eq s
  unfold topB bhB Lib.cut
  rw [size_mkS, size_mkS]
  split
  · simp only [List.length_take, List.length_drop]
    omega
  · exact ⟨by rw [hl]; exact Nat.le_refl _, by simp⟩
theorem ext_take (b : ByteArray) (m : Nat) : (b.extract 0 m).size ≤ b.size := by rw [ByteArray.size_extract]; omega
theorem Parse_c (s : ByteArray) (w : World) (hP : PaOk s) (hM : Mx w) (hT : Nu.Tabs w) :
    Calls Tryd.prog 14 #[.string s] w fun e w' => PaQ (w.heap.size + 1) (parL s) e w' ∧ Below w.heap.size w w' := by
  obtain ⟨hs, hP⟩ := hP
  obtain ⟨hst, hsb⟩ := cut_sz s
  have HC := fun W (h : Mx W) => cut4_c s W (by omega) h
  change ∀ W, Mx W → Calls _ _ _ W fun e w' => e = .returned (.tuple #[.string (topB s), .string (bhB s), .bool (Lib.cut s.data.toList endE).2.2]) ∧ _ at HC
  cases hc : (Lib.cut s.data.toList endE).2.2 with
  | false =>
    simp only [hc] at HC
    have e : parL s = .error 11 := by unfold parL; rw [if_pos hc]
    exact (pa_a s (topB s) (bhB s) w (Lib.hid hM) (Lib.hid HC)).mono fun e1 w' hh => ⟨paq_no e hh.1, hh.2⟩
  | true =>
    obtain ⟨hnl, hlz, hdg, hfl⟩ := hP hc
    simp only [hc] at HC
    have hl := spl_len (topB s)
    have hsz := spl_sz (topB s)
    obtain ⟨k, hk⟩ : ∃ k, (spl (topB s)).length = k + 1 := ⟨(spl (topB s)).length - 1, by omega⟩
    have HSP := fun W (h : Mx W) => split_c (topB s) W (by omega) h
    have HLA : ∀ g W, LnS g 0 (spl (topB s)) W → W.cell? ⟨g, k, none⟩ = some (.string (lastL (spl (topB s)))) := fun g W h => by
      have hkl : k < (spl (topB s)).length := by omega
      have h2 := h.2 k hkl
      rw [Nat.zero_add] at h2
      have e : lastL (spl (topB s)) = (spl (topB s))[k] := by
        unfold lastL
        rw [hk, Nat.add_sub_cancel, List.getD_eq_getElem?_getD, List.getElem?_eq_getElem hkl]; rfl
      rw [e]; exact h2
    have hlm : lastL (spl (topB s)) ∈ spl (topB s) := by
      have hkl : k < (spl (topB s)).length := by omega
      have e : lastL (spl (topB s)) = (spl (topB s))[k] := by
        unfold lastL
        rw [hk, Nat.add_sub_cancel, List.getD_eq_getElem?_getD, List.getElem?_eq_getElem hkl]; rfl
      rw [e]; exact List.getElem_mem hkl
    have HLE := fun W => len_c (lastL (spl (topB s))) (bhB s).size W (by have := hsz _ hlm; omega) hlz
    have HOLg := fun (m : Nat) g W (h : LnS g 0 (spl (topB s)) W) => ofLines_c g (spl (topB s)) ((bhB s).extract 0 m) W h (by omega) (by omega) (fun p hp => by have := hsz p hp; omega) hdg
    simp only [hk] at HSP HOLg
    have e0 : parL s = match lenL (lastL (spl (topB s))).data.toList (bhB s).size with
      | none => .error 11
      | some m => match ofLnL (spl (topB s)) ((bhB s).extract 0 m.toNat) with
        | none => .error 3
        | some x => if rightB x.1 x.2.1 x.2.2 = false then .error 3 else
          if Lib.hasPrefix s.data.toList (encL x.1 x.2.1 x.2.2) = false then .error 3 else .ok (x.1, x.2.1, x.2.2, (encL x.1 x.2.1 x.2.2).length) := by
      conv => lhs; unfold parL
      rw [if_neg (by simp [hc])]
    cases hq : lenL (lastL (spl (topB s))).data.toList (bhB s).size with
    | none =>
      simp only [hq] at HLE e0
      exact (pa_b s (topB s) (bhB s) w (Lib.hid hM) (Lib.hid HC) _ k _ (by omega) (by omega) (Lib.hid HLA) (Lib.hid HSP) 0 (Lib.hid HLE)).mono fun e1 w' hh => ⟨paq_no e0 hh.1, hh.2⟩
    | some m =>
      obtain ⟨hm0, hm1⟩ := len_bd hq (by omega)
      obtain ⟨mn, rfl⟩ : ∃ mn : Nat, m = (mn : Int) := ⟨m.toNat, by omega⟩
      simp only [hq, Int.toNat_natCast] at HLE e0
      have hmb : mn ≤ (bhB s).size := by omega
      have HOL := fun g W h (_ : w.heap.size < W.heap.size) => HOLg mn g W h
      have hbx := ext_take (bhB s) mn
      cases ho : ofLnL (spl (topB s)) ((bhB s).extract 0 mn) with
      | none =>
        simp only [ho] at HOL e0
        exact (pa_c s (topB s) (bhB s) w (Lib.hid hM) (Lib.hid HC) _ k _ (by omega) (by omega) (Lib.hid HLA) (Lib.hid HSP) mn (Lib.hid HLE) hmb (Lib.hid HOL)).mono fun e1 w' hh => ⟨paq_no e0 hh.1, hh.2⟩
      | some x =>
        obtain ⟨hx0, hx1, hxb, ls, hls, hlp, hll⟩ := ol_bd ho
        have hff := hfl mn x ho
        obtain ⟨n, fs, bd⟩ := x
        simp only at hx0 hx1 hxb hls hff
        obtain ⟨hfm, hfn⟩ := flds_bd 1500000 ls [] fs hls (fun l hl => by have := hsz l (hlp l hl); omega) (fun f hf => by cases hf)
        have hfs : ∀ f ∈ fs, smallF f := fun f hf => by have := hfm f hf; exact ⟨by omega, by omega⟩
        simp only [ho] at HOL e0
        have hfc : fs.length ≤ 1000000 := by rw [hfn]; simp only [List.length_nil]; omega
        have HOL2 : ∀ g W, LnS g 0 (spl (topB s)) W → w.heap.size < W.heap.size → Calls Tryd.prog 34 #[.slice (some ⟨g, 0, none⟩) (k + 1) (k + 1), .string ((bhB s).extract 0 mn)] W fun e w' => ∃ aq cq, e = .returned (.tuple #[.agg #[.int .i64 n, .slice aq fs.length cq, .string bd], .bool true]) ∧ OwF 61 (w.heap.size + 1) (.slice aq fs.length cq) fs w' ∧ Below W.heap.size W w' := fun g W h hl => (HOL g W h hl).mono fun e1 w' hh => by
          obtain ⟨⟨aq, cq, he, ho2⟩, hb⟩ := hh
          exact ⟨aq, cq, he, OwF.mono ho2 hl, hb⟩
        have HEN := fun aq cq W (h : OwF 61 (w.heap.size + 1) (.slice aq fs.length cq) fs W) (hb : Below w.heap.size w W) => Encode_c n _ fs bd W (by omega) (by omega) h.rd hfs (hT.go hb) (by omega) (by omega) hff
        have HOW : ∀ v W W', OwF 61 (w.heap.size + 1) v fs W → Below W.heap.size W W' → OwF 61 (w.heap.size + 1) v fs W' := fun v W W' h hb => h.go hb
        have HOG : ∀ v W W', OwF 61 (w.heap.size + 1) v fs W → W.grownBy W' (some w.heap.size) → OwF 61 (w.heap.size + 1) v fs W' := fun v W W' h hb => h.gb hb (Nat.lt_succ_self _)
        cases hr : rightB n fs bd with
        | false =>
          simp only [hr] at HEN e0
          exact (pa_d s (topB s) (bhB s) w (Lib.hid hM) (Lib.hid HC) _ k _ (by omega) (by omega) (Lib.hid HLA) (Lib.hid HSP) mn (Lib.hid HLE) n fs.length bd (fun v W => OwF 61 (w.heap.size + 1) v fs W) (Lib.hid HOW) hmb (Lib.hid HOL2) (Lib.hid HEN)).mono fun e1 w' hh => ⟨paq_no e0 hh.1, hh.2⟩
        | true =>
          simp only [hr] at HEN e0
          have HPX := fun W => hasp_c s (mkS (encL n fs bd)) W
          simp only [data_mkS] at HPX
          cases hp : Lib.hasPrefix s.data.toList (encL n fs bd) with
          | false =>
            simp only [hp] at HPX e0
            exact (pa_e s (topB s) (bhB s) w (Lib.hid hM) (Lib.hid HC) _ k _ (by omega) (by omega) (Lib.hid HLA) (Lib.hid HSP) mn (Lib.hid HLE) n fs.length bd (fun v W => OwF 61 (w.heap.size + 1) v fs W) (Lib.hid HOW) hmb (Lib.hid HOL2) _ (Lib.hid HPX) (Lib.hid HEN)).mono fun e1 w' hh => ⟨paq_no e0 hh.1, hh.2⟩
          | true =>
            simp only [hp] at HPX e0
            refine (pa_f s (topB s) (bhB s) w (Lib.hid hM) (Lib.hid HC) _ k _ (by omega) (by omega) (Lib.hid HLA) (Lib.hid HSP) mn (Lib.hid HLE) n fs.length bd (fun v W => OwF 61 (w.heap.size + 1) v fs W) (Lib.hid HOW) (Lib.hid HOG) hmb (Lib.hid HOL2) _ (Lib.hid HPX) (Lib.hid HEN)).mono fun e1 w' hh => ?_
            obtain ⟨aq, cq, he, hw, hb⟩ := hh
            refine ⟨paq_ok e0 (by rw [he, size_mkS]) hw, hb⟩
end Go.Proofs.YtolfenachbbjdaaDoor.Rp
