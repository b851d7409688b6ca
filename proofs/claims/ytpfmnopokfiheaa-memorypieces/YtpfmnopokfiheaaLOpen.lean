/- Calls that are handed in, opened. -/
import Derived.Test.YtpfmnopokfiheaaMOpen
import Derived.Test.YtpfmnopokfiheaaLPlayed
import Derived.SizedLaws
namespace Go.Proofs.Ytpfmnopokfiheaa
open Go.ChangeShapes Go.WideShapes Go.ChangeAt Go.RowKit Go.Maps
set_option linter.unusedVariables false
set_option linter.unusedSimpArgs false

theorem open_rowS {H : Type} {enc : TypeId × Value → H} {w : World} {base : Nat} {sp : Nat → Bool} {held : Bool} {fuel : Nat} {cs : List Value} {x : DataW H × List MemPlace}
    (h : DataW.trod enc Try.prog w base sp held fuel 31 cs = some x) : ∃ ao len cap bs, cs = [.slice ao len cap] ∧ IsRow w ao len cap bs ∧ (len = 0 ∨ ∃ es s : List (DataW H), x.1 = .slice es s ∧ es.length = len) := by
  obtain ⟨ao, len, cap, bs, rfl, hr⟩ := open_row h
  refine ⟨ao, len, cap, bs, rfl, hr, ?_⟩
  rcases Deep.open_slice1 Try.underlying31 cells5 h with ⟨e, _⟩ | ⟨a, len', cap', m, n, V, D, Pl, e, _, _, _, _, hx, _⟩
  · left
    simp at e
    exact e.2.1
  · right
    simp at e
    obtain ⟨_, rfl, _⟩ := e
    exact ⟨_, _, congrArg Prod.fst hx, by simp⟩

set_option maxRecDepth 20000 in
/-- What an Op holds, and how much. -/
theorem open_opcS {H : Type} {enc : TypeId × Value → H} {w : World} {base : Nat} {sp : Nat → Bool} {held : Bool} {fuel : Nat} {cs : List Value} {x : DataW H × List MemPlace}
    (h : DataW.trod enc Try.prog w base sp held fuel 33 cs = some x) :
    ∃ z : Oz, cs = [.int .i64 z.k, .int .u64 (z.a : Int), .int .i64 z.n, .int .i64 z.may, .int .u64 z.x, .slice z.ao z.len z.cap] ∧ z.a < 18446744073709551616 ∧ (Lit.int .i64 z.n).wf = true ∧ (Lit.int .u64 z.x).wf = true ∧ IsRow w z.ao z.len z.cap z.bs ∧
      (z.len = 0 ∨ ∃ (p0 p1 p2 p3 p4 : DataW H) (es s : List (DataW H)), x.1 = .agg [p0, p1, p2, p3, p4, .slice es s] ∧ es.length = z.len) := by
  obtain ⟨xs, n, _, hx, hl, hlen, hfs⟩ := DataW.trod_struct Try.underlying33 h
  rw [cellsOp] at hl
  match cs, hl, xs, hlen with
  | [c0, c1, c2, c3, c4, c5], _, [y0, y1, y2, y3, y4, y5], _ =>
    have h0 := hfs 0 _ rfl
    have h1 := hfs 1 _ rfl
    have h2 := hfs 2 _ rfl
    have h3 := hfs 3 _ rfl
    have h4 := hfs 4 _ rfl
    have h5 := hfs 5 _ rfl
    simp [cells3, cells30, cells31] at h0 h1 h2 h3 h4 h5
    obtain ⟨x0, e0, _, z0⟩ := DataW.trod_int Try.underlying3 h0
    obtain ⟨x1, e1, _, z1⟩ := DataW.trod_int Try.underlying30 h1
    obtain ⟨x2, e2, _, z2⟩ := DataW.trod_int Try.underlying3 h2
    obtain ⟨x3, e3, _, z3⟩ := DataW.trod_int Try.underlying3 h3
    obtain ⟨x4, e4, _, z4⟩ := DataW.trod_int Try.underlying30 h4
    obtain ⟨ao, len, cap, bs, e5, hr, hd⟩ := open_rowS h5
    simp at e0 e1 e2 e3 e4 e5
    subst e0 e1 e2 e3 e4 e5
    obtain ⟨a, rfl, ha⟩ := u64_nat z1
    refine ⟨⟨x0, a, x2, x3, x4, ao, len, cap, bs⟩, rfl, ha, z2, z4, hr, ?_⟩
    rcases hd with hd | ⟨es, s, hd, he⟩
    · exact .inl hd
    · right
      refine ⟨y0.1, y1.1, y2.1, y3.1, y4.1, es, s, ?_, he⟩
      rw [hx]
      simp [hd]

theorem addr_add' (b o i j : Nat) : ((⟨b, o, none⟩ : Addr).add i).add j = ⟨b, o + i + j, none⟩ := by
  unfold Addr.add
  by_cases h1 : i = 0 <;> by_cases h2 : j = 0 <;> simp [h1, h2, Nat.add_assoc]
instance : Inhabited Oz := ⟨Oz.none⟩

set_option maxRecDepth 20000 in
theorem open_ops {H : Type} {enc : TypeId × Value → H} {W : World} {base : Nat} {v : Value} {d : DataW H} {p : List MemPlace} (hv : Value.okWide Try.prog W .any base 22 v) (h : DataW.Trod enc Try.prog W 0 (fun _ => true) true 22 v d p) :
    ∃ ao c l, v = .slice ao l.length c ∧ (l = [] ∨ ∃ b off, ao = some ⟨b, off, none⟩ ∧ ∀ i, i < l.length → OpAt W b (off + i * 6) (l.getD i Oz.none)) ∧
      (∀ z ∈ l, z.a < 18446744073709551616 ∧ (Lit.int .i64 z.n).wf = true ∧ (Lit.int .u64 z.x).wf = true ∧ IsRow W z.ao z.len z.cap z.bs) ∧
      (l = [] ∨ ∃ es sp : List (DataW H), d = .slice es sp ∧ es.length = l.length ∧ ∀ z ∈ l, z.len = 0 ∨ ∃ (p0 p1 p2 p3 p4 : DataW H) (e s : List (DataW H)), DataW.agg [p0, p1, p2, p3, p4, .slice e s] ∈ es ∧ e.length = z.len) := by
  obtain ⟨a0, len0, cap0, rfl⟩ := okWide_slice Try.underlying22 hv
  obtain ⟨fuel, hf⟩ := h
  rcases Deep.open_slice Try.underlying22 hf with ⟨hcs, _⟩ | ⟨a, len, cap, m, n, D, Pl, hcs, _, hl, hm, hmm, hx, hcell⟩
  · simp [Value.cells] at hcs
    obtain ⟨rfl, rfl, rfl⟩ := hcs
    exact ⟨none, 0, [], rfl, .inl rfl, fun s hs => (by cases hs), .inl rfl⟩
  · simp [Value.cells] at hcs
    obtain ⟨rfl, rfl, rfl⟩ := hcs
    obtain ⟨hx1, hx2⟩ := Prod.mk.inj hx
    have hlm : len0 ≤ m := by rw [hmm]; split <;> omega
    have each : ∀ i, i < m → ∃ z : Oz, W.cells? 0 (a.add (i * 6)) 6 = some [.int .i64 z.k, .int .u64 (z.a : Int), .int .i64 z.n, .int .i64 z.may, .int .u64 z.x, .slice z.ao z.len z.cap] ∧ (z.a < 18446744073709551616 ∧ (Lit.int .i64 z.n).wf = true ∧ (Lit.int .u64 z.x).wf = true ∧ IsRow W z.ao z.len z.cap z.bs) ∧
        (z.len = 0 ∨ ∃ (p0 p1 p2 p3 p4 : DataW H) (es s : List (DataW H)), D i = .agg [p0, p1, p2, p3, p4, .slice es s] ∧ es.length = z.len) := fun i hi => by
      obtain ⟨cs', h1, h2⟩ := hcell i hi
      rw [cellsOp] at h1
      obtain ⟨z, rfl, h3, h4, h5, h6, h7⟩ := open_opcS h2
      exact ⟨z, h1, ⟨h3, h4, h5, h6⟩, h7⟩
    obtain ⟨Sx, hS⟩ := Deep.choose_lt each
    refine ⟨some a, cap0, (List.range len0).map Sx, by simp, ?_, fun z hz => ?_, .inr ⟨_, _, hx1, by simp, fun z hz => ?_⟩⟩
    · by_cases h0 : len0 = 0
      · left; subst h0; rfl
      · right
        obtain ⟨b, off, spot⟩ := a
        have cellAt : ∀ i, i < m → ∀ j, j < 6 → W.cell? ((⟨b, off, spot⟩ : Addr).add (i * 6) |>.add j) = ([.int .i64 (Sx i).k, .int .u64 ((Sx i).a : Int), .int .i64 (Sx i).n, .int .i64 (Sx i).may, .int .u64 (Sx i).x, .slice (Sx i).ao (Sx i).len (Sx i).cap] : List Value)[j]? := fun i hi j hj => by
          have := (World.cells?_some (hS i hi).1)
          exact this.2.2 j hj
        have hc := cellAt 0 (by omega) 0 (by omega)
        have hspot : spot = Option.none := World.cell?_spot (v := .int .i64 (Sx 0).k) hc
        subst hspot
        refine ⟨b, off, rfl, fun i hi => ?_⟩
        have hi' : i < len0 := by simpa using hi
        have e : ((List.range len0).map Sx).getD i Oz.none = Sx i := by simp [hi']
        rw [e]
        have k := cellAt i (by omega)
        have k0 := k 0 (by omega); have k1 := k 1 (by omega); have k2 := k 2 (by omega); have k3 := k 3 (by omega); have k4 := k 4 (by omega); have k5 := k 5 (by omega)
        rw [addr_add'] at k0 k1 k2 k3 k4 k5
        exact ⟨k0, k1, k2, k3, k4, k5⟩
    · simp only [List.mem_map, List.mem_range] at hz
      obtain ⟨i, hi, rfl⟩ := hz
      exact (hS i (by omega)).2.1
    · simp only [List.mem_map, List.mem_range] at hz
      obtain ⟨i, hi, rfl⟩ := hz
      rcases (hS i (by omega)).2.2 with h1 | ⟨p0, p1, p2, p3, p4, e, s, h1, h2⟩
      · exact .inl h1
      · refine .inr ⟨p0, p1, p2, p3, p4, e, s, ?_, h2⟩
        rw [← h1]
        exact List.mem_map.2 ⟨i, List.mem_range.2 hi, rfl⟩

theorem weights_in {H : Type} {P : Program} {e : TypeId} : ∀ {l : List (DataW H)} {d : DataW H}, d ∈ l → ∀ n ∈ d.weights P e, n ∈ DataW.weightsAll P e l
  | d' :: r, d, hd, n, hn => by
    simp only [DataW.weightsAll, List.mem_append]
    rcases List.mem_cons.1 hd with rfl | h
    · exact Or.inl hn
    · exact Or.inr (weights_in h n hn)
theorem bytes5 : Try.prog.bytesOf 5 = 1 := by kernel_rfl
theorem bytesOp : Try.prog.bytesOf 33 = 64 := by kernel_rfl
/-- The bytes within a call that came in are as many as a machine has. -/
theorem sized_op {H : Type} {ts : List TypeId} {ds : List (DataW H)} (h : (DataW.weightsEach Try.prog ts ds).all (· ≤ reachBytes) = true) {j : Nat} {es sp : List (DataW H)} {p0 p1 p2 p3 p4 : DataW H} {e s : List (DataW H)}
    (ht : ts[j]? = some 22) (hd : ds[j]? = some (.slice es sp)) (hx : DataW.agg [p0, p1, p2, p3, p4, .slice e s] ∈ es) : e.length ≤ 140737488351232 := by
  have hm : (e.length + s.length) * Try.prog.bytesOf 5 ∈ (DataW.agg [p0, p1, p2, p3, p4, .slice e s]).weights Try.prog 33 := by
    simp only [DataW.weights, Try.underlying33]
    refine DataW.weights_mem_each (j := 5) (t := 31) (d := .slice e s) rfl rfl _ ?_
    simp [DataW.weights, Try.underlying31]
  have := List.all_eq_true.1 h _ (DataW.weights_mem_each ht hd ((e.length + s.length) * Try.prog.bytesOf 5) (by
    simp only [DataW.weights, Try.underlying22, List.mem_cons, List.mem_append]
    exact Or.inr (Or.inl (weights_in hx _ hm))))
  rw [bytes5] at this
  simp [reachBytes] at this
  omega
theorem i64_in {x : Int} (h : (Lit.int .i64 x).wf = true) : -9223372036854775808 ≤ x ∧ x ≤ 9223372036854775807 := by
  simpa [Lit.wf, IntKind.min, IntKind.max, IntKind.signed, IntKind.bits] using h
theorem u64_in {x : Int} (h : (Lit.int .u64 x).wf = true) : 0 ≤ x ∧ x < 18446744073709551616 := by
  have : 0 ≤ x ∧ x ≤ 18446744073709551615 := by simpa [Lit.wf, IntKind.min, IntKind.max, IntKind.signed, IntKind.bits] using h
  omega
end Go.Proofs.Ytpfmnopokfiheaa
