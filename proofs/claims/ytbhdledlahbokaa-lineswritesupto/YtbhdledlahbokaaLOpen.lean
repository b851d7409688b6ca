/- Programs that are handed in, opened; their bulk. -/
import Derived.Test.YtbhdledlahbokaaRows
import Derived.Test.YtbhdledlahbokaaLTp
import Derived.Deep.Slices
import Derived.ChangeOld
import Derived.OpenShut
import Derived.Lib.SmallJoins
namespace Go.Proofs.Ytbhdledlahbokaa
open Go.ChangeShapes Go.WideShapes Go.ChangeAt Go.RowKit
set_option linter.unusedVariables false
set_option linter.unusedSimpArgs false

theorem bu_in {H : Type} {d : DataW H} : ∀ {l : List (DataW H)}, d ∈ l → Rows.uptoBulk d ≤ Rows.uptoBulkAll l
  | x :: r, h => by
    simp only [Rows.uptoBulkAll]
    rcases List.mem_cons.1 h with e | e
    · subst e; omega
    · have := bu_in e; omega
theorem bu_one {H : Type} (d : DataW H) : 1 ≤ Rows.uptoBulk d := by
  cases d with
  | lit x => cases x <;> simp [Rows.uptoBulk]
  | _ => simp [Rows.uptoBulk]
theorem bu_len {H : Type} : ∀ l : List (DataW H), l.length ≤ Rows.uptoBulkAll l
  | [] => Nat.le_refl _
  | d :: r => by
    have h1 := bu_one d
    have h2 := bu_len r
    simp only [Rows.uptoBulkAll, List.length_cons]
    omega
theorem bu_of {H : Type} {ds : List (DataW H)} (hk : Rows.uptoSmall H ds = true) {d : DataW H} (hd : d ∈ ds) : Rows.uptoBulk d ≤ 1048576 := by
  have h1 : Rows.uptoBulkAll ds ≤ 1048576 := of_decide_eq_true hk
  have h2 := bu_in hd
  omega
theorem addr_add3 (b o x y : Nat) : ((⟨b, o, none⟩ : Addr).add x).add y = ⟨b, o + x + y, none⟩ := by rw [caddr_add, caddr_add]

set_option maxRecDepth 20000 in
/-- A slice of things, each of which opens. -/
theorem open_list {Z : Type} [Inhabited Z] {H : Type} {enc : TypeId × Value → H} {W : World} {t e c : Nat} (ht : Try.prog.underlying t = some (.slice e)) (hc : Try.prog.cellsOf e = c) (hc1 : 1 ≤ c) (E : List Value → Nat → Z → Prop)
    (hE : ∀ fuel cs dd p, DataW.trod enc Try.prog W 0 (fun _ => true) true fuel e cs = some (dd, p) → ∃ z, E cs (Rows.uptoBulk dd) z) (hm : ∀ cs n m z, E cs n z → n ≤ m → E cs m z)
    {fuel : Nat} {cs : List Value} {d : DataW H} {p : List MemPlace} (hf : DataW.trod enc Try.prog W 0 (fun _ => true) true fuel t cs = some (d, p)) :
    ∃ ao cap, ∃ l : List Z, cs = [.slice ao l.length cap] ∧ (ao = none → cap = 0) ∧ l.length ≤ Rows.uptoBulk d ∧ (∀ z ∈ l, ∃ ces, E ces (Rows.uptoBulk d) z) ∧ (l.length = 0 ∨ ∃ b off, ao = some ⟨b, off, none⟩ ∧ ∀ i, i < l.length → ∃ ces, (∀ j, j < c → W.cell? ⟨b, off + i * c + j, none⟩ = ces[j]?) ∧ E ces (Rows.uptoBulk d) (l.getD i default)) := by
  rcases Deep.open_slice ht hf with ⟨hcs, _⟩ | ⟨a, len, cap, m, n, D, Pl, hcs, _, hl, hmx, hmm, hx, hcell⟩
  · exact ⟨none, 0, [], hcs, (fun _ => rfl), by simp, (fun z hz => (by cases hz)), .inl rfl⟩
  · obtain ⟨hx1, hx2⟩ := Prod.mk.inj hx
    have hlm : len ≤ m := by rw [hmm]; split <;> omega
    have each : ∀ i, i < m → ∃ z : Z, ∃ ces, W.cells? 0 (a.add (i * c)) c = some ces ∧ E ces (Rows.uptoBulk (D i)) z := fun i hi => by
      obtain ⟨cs', h1, h2⟩ := hcell i hi
      rw [hc] at h1
      obtain ⟨z, hz⟩ := hE _ _ _ _ h2
      exact ⟨z, cs', h1, hz⟩
    obtain ⟨Sx, hS⟩ := Deep.choose_lt each
    have hb : ∀ i, i < len → Rows.uptoBulk (D i) ≤ Rows.uptoBulk d := fun i hi => by
      have h1 : D i ∈ (List.range len).map D := List.mem_map.2 ⟨i, List.mem_range.2 hi, rfl⟩
      have h2 := bu_in h1
      rw [hx1]
      simp only [Rows.uptoBulk]
      omega
    refine ⟨some a, cap, (List.range len).map Sx, by simpa using hcs, (fun e => by cases e), ?_, fun z hz => ?_, ?_⟩
    · rw [hx1]
      have := bu_len ((List.range len).map D)
      simp only [Rows.uptoBulk, List.length_map, List.length_range] at this ⊢
      omega
    · obtain ⟨i, hi, rfl⟩ := List.mem_map.1 hz
      have hi2 := List.mem_range.1 hi
      obtain ⟨ces, _, h2⟩ := hS i (by omega)
      exact ⟨ces, hm _ _ _ _ h2 (hb i hi2)⟩
    · by_cases h0 : len = 0
      · left; simp [h0]
      · right
        obtain ⟨b, off, spot⟩ := a
        obtain ⟨ces0, h1, _⟩ := hS 0 (by omega)
        obtain ⟨_, hlen, hcl⟩ := World.cells?_some h1
        have hc0 := hcl 0 (by omega)
        have hspot : spot = Option.none := by
          have h : (0 : Nat) < ces0.length := by omega
          rw [List.getElem?_eq_getElem h] at hc0
          simpa [Addr.add] using World.cell?_spot hc0
        subst hspot
        refine ⟨b, off, rfl, fun i hi => ?_⟩
        have hi' : i < len := by simpa using hi
        obtain ⟨ces, h1, h2⟩ := hS i (by omega)
        have e : ((List.range len).map Sx).getD i default = Sx i := by simp [hi']
        rw [e]
        refine ⟨ces, fun j hj => ?_, hm _ _ _ _ h2 (hb i hi')⟩
        have := (World.cells?_some h1).2.2 j hj
        rwa [addr_add3] at this

theorem cellsI : Try.prog.cellsOf 3 = 1 := by kernel_rfl
theorem cellsS : Try.prog.cellsOf 9 = 1 := by kernel_rfl
theorem cellsR : Try.prog.cellsOf 50 = 4 := by kernel_rfl
theorem cellsQ : Try.prog.cellsOf 67 = 3 := by kernel_rfl
theorem cellsP : Try.prog.cellsOf 25 = 2 := by kernel_rfl
theorem cellsRs : Try.prog.cellsOf 65 = 1 := by kernel_rfl
theorem cellsQs : Try.prog.cellsOf 23 = 1 := by kernel_rfl
theorem cellsSs : Try.prog.cellsOf 22 = 1 := by kernel_rfl
theorem i64_in {a : Int} (h : (Lit.int .i64 a).wf = true) : -9223372036854775808 ≤ a ∧ a ≤ 9223372036854775807 := by
  simpa [Lit.wf, IntKind.min, IntKind.max, IntKind.signed, IntKind.bits] using h
instance : Inhabited Lr := ⟨Lr.zero⟩
instance : Inhabited Sq := ⟨Sq.zero⟩
instance : Inhabited Pg := ⟨pg0⟩
def IsR (cs : List Value) (n : Nat) (z : Lr) : Prop := cs = [.int .i64 z.at', .int .i64 z.fi, .int .i64 z.li, .int .i64 z.co]
def IsQ (W : World) (cs : List Value) (n : Nat) (z : Sq) : Prop := ∃ a c, cs = [.int .i64 z.st, .int .i64 z.sz, .slice a z.rows.length c] ∧ Lrs W a z.rows ∧ BndQ z ∧ z.rows.length ≤ n
def IsS (cs : List Value) (n : Nat) (z : ByteArray) : Prop := cs = [.string z]
/-- What a program's two cells are. -/
def IsP (W : World) (cs : List Value) (n : Nat) (z : Pg) : Prop := ∃ fa fc sa sc, cs = [.slice fa z.files.length fc, .slice sa z.seqs.length sc] ∧ Strs W fa z.files ∧ Sqs W sa z.seqs ∧ (fa = none → fc = 0) ∧ (∀ q ∈ z.seqs, BndQ q ∧ q.rows.length ≤ n) ∧ z.files.length ≤ n ∧ z.seqs.length ≤ n

section
variable {H : Type} {enc : TypeId × Value → H} {W : World} {fuel : Nat} {cs : List Value} {dd : DataW H} {p : List MemPlace}
set_option maxRecDepth 20000 in
theorem open_R (h : DataW.trod enc Try.prog W 0 (fun _ => true) true fuel 50 cs = some (dd, p)) : ∃ z, IsR cs (Rows.uptoBulk dd) z := by
  obtain ⟨xs, n, _, hx, hl, hlen, hfs⟩ := DataW.trod_struct Try.underlying50 h
  rw [cellsR] at hl
  match cs, hl, xs, hlen with
  | [c0, c1, c2, c3], _, [y0, y1, y2, y3], _ =>
    have h0 := hfs 0 _ rfl
    have h1 := hfs 1 _ rfl
    have h2 := hfs 2 _ rfl
    have h3 := hfs 3 _ rfl
    simp [cellsI] at h0 h1 h2 h3
    obtain ⟨x0, e0, _, _⟩ := DataW.trod_int Try.underlying3 h0
    obtain ⟨x1, e1, _, _⟩ := DataW.trod_int Try.underlying3 h1
    obtain ⟨x2, e2, _, _⟩ := DataW.trod_int Try.underlying3 h2
    obtain ⟨x3, e3, _, _⟩ := DataW.trod_int Try.underlying3 h3
    simp at e0 e1 e2 e3
    subst e0 e1 e2 e3
    exact ⟨⟨x0, x1, x2, x3⟩, rfl⟩
set_option maxRecDepth 20000 in
theorem open_Q (h : DataW.trod enc Try.prog W 0 (fun _ => true) true fuel 67 cs = some (dd, p)) : ∃ z, IsQ W cs (Rows.uptoBulk dd) z := by
  obtain ⟨xs, n, _, hx, hl, hlen, hfs⟩ := DataW.trod_struct Try.underlying67 h
  rw [cellsQ] at hl
  match cs, hl, xs, hlen with
  | [c0, c1, c2], _, [y0, y1, y2], _ =>
    have h0 := hfs 0 _ rfl
    have h1 := hfs 1 _ rfl
    have h2 := hfs 2 _ rfl
    simp [cellsI, cellsRs] at h0 h1 h2
    obtain ⟨x0, e0, _, z0⟩ := DataW.trod_int Try.underlying3 h0
    obtain ⟨x1, e1, _, z1⟩ := DataW.trod_int Try.underlying3 h1
    have hb : Rows.uptoBulk y2.1 ≤ Rows.uptoBulk dd := by
      have hx1 : dd = _ := congrArg Prod.fst hx
      rw [hx1]
      simp only [Rows.uptoBulk, List.map_cons, List.map_nil, Rows.uptoBulkAll]
      omega
    obtain ⟨ao, cap, l, el, _, hl1, _, hl3⟩ := open_list Try.underlying65 cellsR (by decide) IsR (fun _ _ _ _ h => open_R h) (fun _ _ _ _ h _ => h) (show DataW.trod enc Try.prog W 0 (fun _ => true) true _ _ [c2] = some (y2.1, y2.2) from h2)
    simp at e0 e1 el
    subst e0 e1 el
    refine ⟨⟨x0, x1, l⟩, ao, cap, rfl, ?_, ⟨i64_in z0, i64_in z1⟩, Nat.le_trans hl1 hb⟩
    rcases hl3 with h | ⟨b, off, e, h⟩
    · exact .inl h
    · refine .inr ⟨b, off, e, fun i hi => ?_⟩
      obtain ⟨ces, k, rfl⟩ := h i hi
      exact ⟨k 0 (by decide), k 1 (by decide), k 2 (by decide), k 3 (by decide)⟩
theorem open_S (h : DataW.trod enc Try.prog W 0 (fun _ => true) true fuel 9 cs = some (dd, p)) : ∃ z, IsS cs (Rows.uptoBulk dd) z := by
  obtain ⟨s, e, _⟩ := DataW.trod_string Try.underlying9 h
  exact ⟨s, e⟩
/-- Both parts of a program. -/
theorem open_2 {f1 f2 : Nat} {c0 c1 : Value} {d0 d1 : DataW H} {p0 p1 : List MemPlace} (h0 : DataW.trod enc Try.prog W 0 (fun _ => true) true f1 22 [c0] = some (d0, p0)) (h1 : DataW.trod enc Try.prog W 0 (fun _ => true) true f2 23 [c1] = some (d1, p1)) {N : Nat} (b0 : Rows.uptoBulk d0 ≤ N) (b1 : Rows.uptoBulk d1 ≤ N) : ∃ z, IsP W [c0, c1] N z := by
  obtain ⟨fa, fc, files, ef, hn, hl1, _, hl3⟩ := open_list Try.underlying22 cellsS (by decide) IsS (fun _ _ _ _ h => open_S h) (fun _ _ _ _ h _ => h) h0
  obtain ⟨sa, sc, seqs, es, _, kl1, kl2, kl3⟩ := open_list Try.underlying23 cellsQ (by decide) (IsQ W) (fun _ _ _ _ h => open_Q h) (fun _ n m z ⟨a, c, h1, h2, h3, h4⟩ hnm => ⟨a, c, h1, h2, h3, Nat.le_trans h4 hnm⟩) h1
  simp at ef es
  subst ef es
  refine ⟨⟨files, seqs⟩, fa, fc, sa, sc, rfl, ?_, ?_, hn, fun q hq => ?_, Nat.le_trans hl1 b0, Nat.le_trans kl1 b1⟩
  · rcases hl3 with h | ⟨b, off, e, h⟩
    · exact .inl h
    · refine .inr ⟨b, off, e, fun i hi => ?_⟩
      obtain ⟨ces, k, hk⟩ := h i hi
      have := k 0 (by decide)
      rw [Nat.mul_one, Nat.add_zero, hk] at this
      have hi' : i < files.length := hi
      simpa [hi'] using this
  · rcases kl3 with h | ⟨b, off, e, h⟩
    · exact .inl h
    · refine .inr ⟨b, off, e, fun i hi => ?_⟩
      obtain ⟨ces, k, a, c, rfl, hr, _⟩ := h i hi
      exact ⟨a, c, k 0 (by decide), k 1 (by decide), k 2 (by decide), hr⟩
  · obtain ⟨_, _, _, _, _, hq1, hq2⟩ := kl2 q hq
    exact ⟨hq1, Nat.le_trans hq2 b1⟩
set_option maxRecDepth 20000 in
theorem open_P (h : DataW.trod enc Try.prog W 0 (fun _ => true) true fuel 25 cs = some (dd, p)) : ∃ z, IsP W cs (Rows.uptoBulk dd) z := by
  obtain ⟨xs, n, _, hx, hl, hlen, hfs⟩ := DataW.trod_struct Try.underlying25 h
  rw [cellsP] at hl
  match cs, hl, xs, hlen with
  | [c0, c1], _, [y0, y1], _ =>
    have h0 := hfs 0 _ rfl
    have h1 := hfs 1 _ rfl
    simp [cellsSs, cellsQs] at h0 h1
    have hb : Rows.uptoBulk y0.1 ≤ Rows.uptoBulk dd ∧ Rows.uptoBulk y1.1 ≤ Rows.uptoBulk dd := by
      have hx1 : dd = _ := congrArg Prod.fst hx
      rw [hx1]
      simp only [Rows.uptoBulk, List.map_cons, List.map_nil, Rows.uptoBulkAll]
      omega
    exact open_2 (show DataW.trod enc Try.prog W 0 (fun _ => true) true _ _ [c0] = some (y0.1, y0.2) from h0) (show DataW.trod enc Try.prog W 0 (fun _ => true) true _ _ [c1] = some (y1.1, y1.2) from h1) hb.1 hb.2
end
theorem few_of {W : World} {cs : List Value} {n : Nat} {z : Pg} (h : IsP W cs n z) (hn : n ≤ 1048576) : Few z := by
  obtain ⟨_, _, _, _, _, _, _, _, h1, h2, h3⟩ := h
  exact ⟨Nat.le_trans h2 hn, Nat.le_trans h3 hn, fun q hq => Nat.le_trans (h1 q hq).2 hn⟩
set_option maxRecDepth 20000 in
/-- Programs that are handed in. -/
theorem open_Ps {H : Type} {enc : TypeId × Value → H} {W : World} {base : Nat} {v : Value} {dd : DataW H} {p : List MemPlace} (hv : Value.okWide Try.prog W .any base 44 v) (h : DataW.Trod enc Try.prog W 0 (fun _ => true) true 44 v dd p) (hk : Rows.uptoBulk dd ≤ 1048576) :
    ∃ ao c l, v = .slice ao l.length c ∧ PgsH W ao l ∧ l.length ≤ 1048576 ∧ FewL l ∧ ∀ p ∈ l, ∀ q ∈ p.seqs, BndQ q := by
  obtain ⟨a0, len0, cap0, rfl⟩ := okWide_slice Try.underlying44 hv
  obtain ⟨fuel, hf⟩ := h
  obtain ⟨ao, cap, l, el, _, hl1, hl2, hl3⟩ := open_list Try.underlying44 cellsP (by decide) (IsP W) (fun _ _ _ _ h => open_P h) (fun _ n m z ⟨a, b, c, d, h1, h2, h3, h4, h5, h6, h7⟩ hnm => ⟨a, b, c, d, h1, h2, h3, h4, fun q hq => ⟨(h5 q hq).1, Nat.le_trans (h5 q hq).2 hnm⟩, Nat.le_trans h6 hnm, Nat.le_trans h7 hnm⟩) hf
  simp [Value.cells] at el
  obtain ⟨rfl, rfl, rfl⟩ := el
  refine ⟨a0, cap0, l, rfl, ?_, Nat.le_trans hl1 hk, fun p hp => ?_, fun p hp q hq => ?_⟩
  · rcases hl3 with h | ⟨b, off, e, h⟩
    · exact .inl h
    · refine .inr ⟨b, off, e, fun i hi => ?_⟩
      obtain ⟨ces, k, hP⟩ := h i hi
      have hw := few_of hP hk
      obtain ⟨fa, fc, sa, sc, rfl, h2, h3, h4, h5, h6, h7⟩ := hP
      exact ⟨fa, fc, sa, sc, k 0 (by decide), k 1 (by decide), hw.pg h2 h3, h4⟩
  · obtain ⟨ces, hP⟩ := hl2 p hp
    exact few_of hP hk
  · obtain ⟨ces, _, _, _, _, _, _, _, _, h5, _⟩ := hl2 p hp
    exact (h5 q hq).1
set_option maxRecDepth 20000 in
/-- One program that is handed in. -/
theorem open_Pg {H : Type} {enc : TypeId × Value → H} {W : World} {base : Nat} {v : Value} {dd : DataW H} {p : List MemPlace} (hv : Value.okWide Try.prog W .any base 25 v) (h : DataW.Trod enc Try.prog W 0 (fun _ => true) true 25 v dd p) (hk : Rows.uptoBulk dd ≤ 1048576) :
    ∃ fa fc sa sc z, v = .agg #[.slice fa z.files.length fc, .slice sa z.seqs.length sc] ∧ PgIn W fa sa z ∧ (fa = none → fc = 0) ∧ Few z ∧ ∀ q ∈ z.seqs, BndQ q := by
  obtain ⟨v0, v1, y0, y1, n, rfl, rfl, rfl, h0, h1⟩ := Go.Joins.open_agg2 Try.underlying25 (by kernel_rfl) (by kernel_rfl) hv h
  simp only [Rows.uptoBulk, Rows.uptoBulkAll] at hk
  obtain ⟨z, hP⟩ := open_2 (N := 1048576) (show DataW.trod enc Try.prog W 0 (fun _ => true) true _ _ [v0] = some (y0.1, y0.2) from h0) (show DataW.trod enc Try.prog W 0 (fun _ => true) true _ _ [v1] = some (y1.1, y1.2) from h1) (by omega) (by omega)
  have hw := few_of hP (Nat.le_refl _)
  obtain ⟨fa, fc, sa, sc, e, h2, h3, h4, h5, _⟩ := hP
  simp at e
  obtain ⟨rfl, rfl⟩ := e
  exact ⟨fa, fc, sa, sc, z, rfl, hw.pg h2 h3, h4, hw, fun q hq => (h5 q hq).1⟩
end Go.Proofs.Ytbhdledlahbokaa
