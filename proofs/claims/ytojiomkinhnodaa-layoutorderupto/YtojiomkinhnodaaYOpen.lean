/- Objects that are handed in, with what may be read of them. -/
import Derived.Test.YtojiomkinhnodaaYKnX
import Derived.Deep.Slices
import Derived.ChangeOld
import Derived.OpenShut
import Derived.ChangeMaps5
import Derived.Lib.SmallJoins
namespace Go.Proofs.Ytojiomkinhnodaa
open Go.ChangeShapes Go.WideShapes Go.ChangeAt Go.RowKit
set_option linter.unusedVariables false
set_option linter.unusedSimpArgs false

theorem bu_in {H : Type} {d : DataW H} : ∀ {l : List (DataW H)}, d ∈ l → Rows.uptoBulk d ≤ Rows.uptoBulkAll l
  | x :: r, h => by
    simp only [Rows.uptoBulkAll]
    rcases List.mem_cons.1 h with e | e
    · subst e; omega
    · have := bu_in e; omega
theorem bu_one {H : Type} (d : DataW H) : 1 ≤ Rows.uptoBulk d := by
  cases d with
  | lit x => cases x <;> simp [Rows.uptoBulk]
  | _ => simp [Rows.uptoBulk]
theorem bu_len {H : Type} : ∀ l : List (DataW H), l.length ≤ Rows.uptoBulkAll l
  | [] => Nat.le_refl _
  | d :: r => by
    have h1 := bu_one d
    have h2 := bu_len r
    simp only [Rows.uptoBulkAll, List.length_cons]
    omega
theorem bu_of {H : Type} {ds : List (DataW H)} (hk : Rows.uptoSmall H ds = true) {d : DataW H} (hd : d ∈ ds) : Rows.uptoBulk d ≤ 1048576 := by
  have h1 : Rows.uptoBulkAll ds ≤ 1048576 := of_decide_eq_true hk
  have h2 := bu_in hd
  omega
theorem addr_add3 (b o x y : Nat) : ((⟨b, o, none⟩ : Addr).add x).add y = ⟨b, o + x + y, none⟩ := by rw [addr_add, addr_add]

theorem bu_sum {H : Type} {Z : Type} (μ : Z → Nat) (S : Nat → Z) (D : Nat → DataW H) : ∀ (is : List Nat), (∀ i ∈ is, μ (S i) ≤ Rows.uptoBulk (D i)) → ((is.map S).map μ).sum ≤ Rows.uptoBulkAll (is.map D)
  | [], _ => Nat.le_refl _
  | i :: r, h => by
    have h1 := h i (by simp)
    have h2 := bu_sum μ S D r (fun j hj => h j (by simp [hj]))
    simp only [List.map_cons, List.sum_cons, Rows.uptoBulkAll]
    omega
set_option maxRecDepth 20000 in
/-- A slice of things, each of which opens. -/
theorem open_list {Z : Type} [Inhabited Z] {H : Type} {enc : TypeId × Value → H} {W : World} {t e c : Nat} (ht : Try.prog.underlying t = some (.slice e)) (hc : Try.prog.cellsOf e = c) (hc1 : 1 ≤ c) (E : List Value → Nat → Z → Prop)
    (hE : ∀ fuel cs dd p, DataW.trod enc Try.prog W 0 (fun _ => true) true fuel e cs = some (dd, p) → ∃ z, E cs (Rows.uptoBulk dd) z) (hm : ∀ cs n m z, E cs n z → n ≤ m → E cs m z) (μ : Z → Nat) (hμ : ∀ cs n z, E cs n z → μ z ≤ n)
    {fuel : Nat} {cs : List Value} {d : DataW H} {p : List MemPlace} (hf : DataW.trod enc Try.prog W 0 (fun _ => true) true fuel t cs = some (d, p)) :
    ∃ ao cap, ∃ l : List Z, cs = [.slice ao l.length cap] ∧ (ao = none → cap = 0) ∧ l.length ≤ Rows.uptoBulk d ∧ (l.map μ).sum ≤ Rows.uptoBulk d ∧ (∀ z ∈ l, ∃ ces, E ces (Rows.uptoBulk d) z) ∧ (l.length = 0 ∨ ∃ b off, ao = some ⟨b, off, none⟩ ∧ ∀ i, i < l.length → ∃ ces, (∀ j, j < c → W.cell? ⟨b, off + i * c + j, none⟩ = ces[j]?) ∧ E ces (Rows.uptoBulk d) (l.getD i default)) := by
  rcases Deep.open_slice ht hf with ⟨hcs, _⟩ | ⟨a, len, cap, m, n, D, Pl, hcs, _, hl, hmx, hmm, hx, hcell⟩
  · exact ⟨none, 0, [], hcs, (fun _ => rfl), by simp, by simp, (fun z hz => (by cases hz)), .inl rfl⟩
  · obtain ⟨hx1, hx2⟩ := Prod.mk.inj hx
    have hlm : len ≤ m := by rw [hmm]; split <;> omega
    have each : ∀ i, i < m → ∃ z : Z, ∃ ces, W.cells? 0 (a.add (i * c)) c = some ces ∧ E ces (Rows.uptoBulk (D i)) z := fun i hi => by
      obtain ⟨cs', h1, h2⟩ := hcell i hi
      rw [hc] at h1
      obtain ⟨z, hz⟩ := hE _ _ _ _ h2
      exact ⟨z, cs', h1, hz⟩
    obtain ⟨Sx, hS⟩ := Deep.choose_lt each
    have hb : ∀ i, i < len → Rows.uptoBulk (D i) ≤ Rows.uptoBulk d := fun i hi => by
      have h1 : D i ∈ (List.range len).map D := List.mem_map.2 ⟨i, List.mem_range.2 hi, rfl⟩
      have h2 := bu_in h1
      rw [hx1]
      simp only [Rows.uptoBulk]
      omega
    refine ⟨some a, cap, (List.range len).map Sx, by simpa using hcs, (fun e => by cases e), ?_, ?_, fun z hz => ?_, ?_⟩
    · rw [hx1]
      have := bu_len ((List.range len).map D)
      simp only [Rows.uptoBulk, List.length_map, List.length_range] at this ⊢
      omega
    · have h1 := bu_sum μ Sx D (List.range len) (fun i hi => by obtain ⟨ces, _, h2⟩ := hS i (by have := List.mem_range.1 hi; omega); exact hμ _ _ _ h2)
      rw [hx1]
      simp only [Rows.uptoBulk] at h1 ⊢
      omega
    · obtain ⟨i, hi, rfl⟩ := List.mem_map.1 hz
      have hi2 := List.mem_range.1 hi
      obtain ⟨ces, _, h2⟩ := hS i (by omega)
      exact ⟨ces, hm _ _ _ _ h2 (hb i hi2)⟩
    · by_cases h0 : len = 0
      · left; simp [h0]
      · right
        obtain ⟨b, off, spot⟩ := a
        obtain ⟨ces0, h1, _⟩ := hS 0 (by omega)
        obtain ⟨_, hlen, hcl⟩ := World.cells?_some h1
        have hc0 := hcl 0 (by omega)
        have hspot : spot = Option.none := by
          have h : (0 : Nat) < ces0.length := by omega
          rw [List.getElem?_eq_getElem h] at hc0
          simpa [Addr.add] using World.cell?_spot hc0
        subst hspot
        refine ⟨b, off, rfl, fun i hi => ?_⟩
        have hi' : i < len := by simpa using hi
        obtain ⟨ces, h1, h2⟩ := hS i (by omega)
        have e : ((List.range len).map Sx).getD i default = Sx i := by simp [hi']
        rw [e]
        refine ⟨ces, fun j hj => ?_, hm _ _ _ _ h2 (hb i hi')⟩
        have := (World.cells?_some h1).2.2 j hj
        rwa [addr_add3] at this

/-- Elements that open make a row that may be read. -/
theorem rd_of {W : World} {k n b off : Nat} (h : ∀ i, i < n → ∃ ces : List Value, ces.length = k ∧ (∀ u ∈ ces, u.oneCell' = true) ∧ ∀ j, j < k → W.cell? ⟨b, off + i * k + j, none⟩ = ces[j]?) : ∃ ys, Rd W k (some ⟨b, off, none⟩) n ys := by
  obtain ⟨S, hS⟩ := Deep.choose_lt h
  refine ⟨(List.range n).flatMap S, ?_, ?_, .inr ⟨_, rfl, fun j u hj => ?_⟩⟩
  · clear h
    induction n with
    | zero => simp
    | succ n ih =>
      rw [List.range_succ, List.flatMap_append, List.length_append, ih (fun i hi => hS i (by omega)), List.flatMap_singleton, (hS n (by omega)).1, Nat.succ_mul]
  · intro u hu
    obtain ⟨i, hi, hu⟩ := List.mem_flatMap.1 hu
    exact (hS i (List.mem_range.1 hi)).2.1 u hu
  · rw [addr_add]
    clear h
    revert j u hj
    induction n with
    | zero => intro j u hj; simp at hj
    | succ n ih =>
      intro j u hj
      have hl : ((List.range n).flatMap S).length = n * k := by
        have hS' := fun i (hi : i < n) => (hS i (by omega)).1
        clear ih hj hS
        induction n with
        | zero => simp
        | succ m ih2 =>
          rw [List.range_succ, List.flatMap_append, List.length_append, ih2 (fun i hi => hS' i (by omega)), List.flatMap_singleton, hS' m (by omega), Nat.succ_mul]
      rw [List.range_succ, List.flatMap_append, List.flatMap_singleton] at hj
      by_cases hjl : j < n * k
      · rw [List.getElem?_append_left (by omega)] at hj
        exact ih (fun i hi => hS i (by omega)) j u hj
      · rw [List.getElem?_append_right (by omega), hl] at hj
        obtain ⟨h1, _, h3⟩ := hS n (by omega)
        have hjk : j - n * k < k := by
          have := (List.getElem?_eq_some_iff.1 hj).1
          omega
        have := h3 (j - n * k) hjk
        rw [show off + n * k + (j - n * k) = off + j by omega] at this
        rw [this]; exact hj
theorem cellsI : Try.prog.cellsOf 3 = 1 := by kernel_rfl
theorem cellsS : Try.prog.cellsOf 9 = 1 := by kernel_rfl
theorem cellsSym6 : Try.prog.cellsOf 80 = 6 := by kernel_rfl
theorem cellsSec : Try.prog.cellsOf 52 = 7 := by kernel_rfl
theorem cellsFl : Try.prog.cellsOf 41 = 2 := by kernel_rfl
theorem cellsB : Try.prog.cellsOf 49 = 1 := by kernel_rfl
theorem cellsR : Try.prog.cellsOf 50 = 1 := by kernel_rfl
theorem cellsYs : Try.prog.cellsOf 39 = 1 := by kernel_rfl
theorem cellsXs : Try.prog.cellsOf 38 = 1 := by kernel_rfl
instance : Inhabited Sym := ⟨Sym.none⟩
def IsYm (cs : List Value) (n : Nat) (z : Sym) : Prop := cs = z.cells ∧ z.nm.size ≤ 9223372036854775807 ∧ z.sc.size ≤ 9223372036854775807
/-- What may be read of a section. -/
def RdN (W : World) (n : Nat) (z : Sec) : Prop := (∃ ys, Rd W 1 z.da z.dn ys) ∧ (∃ ys, Rd W 4 z.ra z.rn ys) ∧ (z.da = none → z.dc = 0) ∧ (z.ra = none → z.rc = 0) ∧ z.dn ≤ n ∧ z.rn ≤ n
theorem RdN.mono {W : World} {n m : Nat} {z : Sec} (h : RdN W n z) (hm : n ≤ m) : RdN W m z := ⟨h.1, h.2.1, h.2.2.1, h.2.2.2.1, Nat.le_trans h.2.2.2.2.1 hm, Nat.le_trans h.2.2.2.2.2 hm⟩
theorem RdN.s {W : World} {n : Nat} {z : Sec} (h : RdN W n z) (hn : n ≤ 1048576) : RdS W z := ⟨h.1, h.2.1, h.2.2.1, h.2.2.2.1, by have := h.2.2.2.2.1; omega, by have := h.2.2.2.2.2; omega⟩
def IsBy (cs : List Value) (n : Nat) (z : Int) : Prop := cs = [.int .u8 z]
def IsRl (cs : List Value) (n : Nat) (z : Int × Int × ByteArray × Int) : Prop := cs = [.int .i64 z.1, .int .i64 z.2.1, .string z.2.2.1, .int .i64 z.2.2.2]
instance : Inhabited ByteArray := ⟨ByteArray.empty⟩
def IsSc (W : World) (cs : List Value) (n : Nat) (z : Sec) : Prop := cs = [.string z.nm, .int .i64 z.ty, .int .i64 z.fl, .int .i64 z.al, .slice z.da z.dn z.dc, .int .i64 z.sz, .slice z.ra z.rn z.rc] ∧ z.nm.size ≤ 9223372036854775807 ∧ RdN W n z
/-- What an object's two cells are. -/
def IsFl (W : World) (cs : List Value) (n : Nat) (z : Fl) : Prop := cs = [.slice z.sa z.secs.length z.sc, .slice z.ya z.syms.length z.yc] ∧ FlIn W z ∧ (∀ s ∈ z.secs, s.nm.size ≤ 9223372036854775807) ∧ SZ z.syms ∧ z.secs.length + z.syms.length ≤ n ∧ (∀ s ∈ z.secs, RdN W n s) ∧ Rd W 6 z.ya z.syms.length (z.syms.flatMap Sym.cells) ∧ (z.ya = none → z.yc = 0)

section
variable {H : Type} {enc : TypeId × Value → H} {W : World} {fuel : Nat} {cs : List Value} {dd : DataW H} {p : List MemPlace}
set_option maxRecDepth 20000 in
theorem open_Ym (h : DataW.trod enc Try.prog W 0 (fun _ => true) true fuel 80 cs = some (dd, p)) : ∃ z, IsYm cs (Rows.uptoBulk dd) z := by
  obtain ⟨xs, n, _, hx, hl, hlen, hfs⟩ := DataW.trod_struct Try.underlying80 h
  rw [cellsSym6] at hl
  match cs, hl, xs, hlen with
  | [x0, x1, x2, x3, x4, x5], _, [y0, y1, y2, y3, y4, y5], _ =>
    have h0 := hfs 0 _ rfl
    have h1 := hfs 1 _ rfl
    have h2 := hfs 2 _ rfl
    have h3 := hfs 3 _ rfl
    have h4 := hfs 4 _ rfl
    have h5 := hfs 5 _ rfl
    simp [cellsI, cellsS] at h0 h1 h2 h3 h4 h5
    obtain ⟨s0, e0, _, z0⟩ := DataW.trod_string Try.underlying9 h0
    obtain ⟨s1, e1, _, z1⟩ := DataW.trod_string Try.underlying9 h1
    obtain ⟨n2, e2, _, _⟩ := DataW.trod_int Try.underlying3 h2
    obtain ⟨n3, e3, _, _⟩ := DataW.trod_int Try.underlying3 h3
    obtain ⟨n4, e4, _, _⟩ := DataW.trod_int Try.underlying3 h4
    obtain ⟨n5, e5, _, _⟩ := DataW.trod_int Try.underlying3 h5
    simp at e0 e1 e2 e3 e4 e5
    unfold maxLen at z0 z1
    exact ⟨⟨s0, s1, n2, n3, n4, n5⟩, by rw [e0, e1, e2, e3, e4, e5]; rfl, z0, z1⟩
theorem slice_cell {t e : TypeId} (ht : Try.prog.underlying t = some (.slice e)) {f : Nat} {c : Value} {d : DataW H} {q : List MemPlace} (hf : DataW.trod enc Try.prog W 0 (fun _ => true) true f t [c] = some (d, q)) : ∃ a n k, c = .slice a n k := by
  rcases Deep.open_slice ht hf with ⟨hcs, _⟩ | ⟨a, len, cap, m, n, D, Pl, hcs, _⟩
  · exact ⟨none, 0, 0, by simpa using hcs⟩
  · exact ⟨some a, len, cap, by simpa using hcs⟩
theorem cellsB1 : Try.prog.cellsOf 5 = 1 := by kernel_rfl
theorem cellsRl : Try.prog.cellsOf 82 = 4 := by kernel_rfl
theorem open_By (h : DataW.trod enc Try.prog W 0 (fun _ => true) true fuel 5 cs = some (dd, p)) : ∃ z, IsBy cs (Rows.uptoBulk dd) z := by
  obtain ⟨n, e, _, _⟩ := DataW.trod_int Try.underlying5 h
  exact ⟨n, e⟩
set_option maxRecDepth 20000 in
theorem open_Rl (h : DataW.trod enc Try.prog W 0 (fun _ => true) true fuel 82 cs = some (dd, p)) : ∃ z, IsRl cs (Rows.uptoBulk dd) z := by
  obtain ⟨xs, n, _, hx, hl, hlen, hfs⟩ := DataW.trod_struct Try.underlying82 h
  rw [cellsRl] at hl
  match cs, hl, xs, hlen with
  | [x0, x1, x2, x3], _, [y0, y1, y2, y3], _ =>
    have h0 := hfs 0 _ rfl
    have h1 := hfs 1 _ rfl
    have h2 := hfs 2 _ rfl
    have h3 := hfs 3 _ rfl
    simp [cellsI, cellsS] at h0 h1 h2 h3
    obtain ⟨n0, e0, _, _⟩ := DataW.trod_int Try.underlying3 h0
    obtain ⟨n1, e1, _, _⟩ := DataW.trod_int Try.underlying3 h1
    obtain ⟨s2, e2, _, _⟩ := DataW.trod_string Try.underlying9 h2
    obtain ⟨n3, e3, _, _⟩ := DataW.trod_int Try.underlying3 h3
    simp at e0 e1 e2 e3
    exact ⟨⟨n0, n1, s2, n3⟩, by unfold IsRl; rw [e0, e1, e2, e3]⟩
theorem open_rd {Z : Type} [Inhabited Z] {t e k : Nat} (ht : Try.prog.underlying t = some (.slice e)) (hc : Try.prog.cellsOf e = k) (hc1 : 1 ≤ k) (E : List Value → Nat → Z → Prop)
    (hE : ∀ fuel cs dd p, DataW.trod enc Try.prog W 0 (fun _ => true) true fuel e cs = some (dd, p) → ∃ z, E cs (Rows.uptoBulk dd) z) (hm : ∀ cs n m z, E cs n z → n ≤ m → E cs m z) (h1 : ∀ cs n z, E cs n z → cs.length = k ∧ ∀ u ∈ cs, u.oneCell' = true)
    {f : Nat} {c : Value} {d : DataW H} {q : List MemPlace} (hf : DataW.trod enc Try.prog W 0 (fun _ => true) true f t [c] = some (d, q)) : ∃ a n cap, c = .slice a n cap ∧ (a = none → cap = 0) ∧ n ≤ Rows.uptoBulk d ∧ ∃ ys, Rd W k a n ys := by
  obtain ⟨ao, cap, l, el, hno, hl1, _, _, hl3⟩ := open_list ht hc hc1 E hE hm (fun _ => 0) (fun _ _ _ _ => Nat.zero_le _) hf
  simp at el
  refine ⟨ao, l.length, cap, el, hno, hl1, ?_⟩
  rcases hl3 with h | ⟨b, off, rfl, h⟩
  · rw [h]
    refine ⟨[], by simp, (fun u hu => by cases hu), ?_⟩
    cases ao with
    | none => exact .inl ⟨rfl, rfl⟩
    | some ad => exact .inr ⟨ad, rfl, fun j u hj => by simp at hj⟩
  · refine rd_of (fun i hi => ?_)
    obtain ⟨ces, k1, k2⟩ := h i hi
    exact ⟨ces, (h1 _ _ _ k2).1, (h1 _ _ _ k2).2, k1⟩
set_option maxRecDepth 20000 in
theorem open_Sc (h : DataW.trod enc Try.prog W 0 (fun _ => true) true fuel 52 cs = some (dd, p)) : ∃ z, IsSc W cs (Rows.uptoBulk dd) z := by
  obtain ⟨xs, n, _, hx, hl, hlen, hfs⟩ := DataW.trod_struct Try.underlying52 h
  rw [cellsSec] at hl
  match cs, hl, xs, hlen with
  | [x0, x1, x2, x3, x4, x5, x6], _, [y0, y1, y2, y3, y4, y5, y6], _ =>
    have h0 := hfs 0 _ rfl
    have h1 := hfs 1 _ rfl
    have h2 := hfs 2 _ rfl
    have h3 := hfs 3 _ rfl
    have h4 := hfs 4 _ rfl
    have h5 := hfs 5 _ rfl
    have h6 := hfs 6 _ rfl
    simp [cellsI, cellsS, cellsB, cellsR] at h0 h1 h2 h3 h4 h5 h6
    obtain ⟨s0, e0, _, z0⟩ := DataW.trod_string Try.underlying9 h0
    obtain ⟨n1, e1, _, _⟩ := DataW.trod_int Try.underlying3 h1
    obtain ⟨n2, e2, _, _⟩ := DataW.trod_int Try.underlying3 h2
    obtain ⟨n3, e3, _, _⟩ := DataW.trod_int Try.underlying3 h3
    have hx1 : dd = _ := congrArg Prod.fst hx
    have hb4 : Rows.uptoBulk y4.1 ≤ Rows.uptoBulk dd := by
      rw [hx1]
      simp only [Rows.uptoBulk, List.map_cons, List.map_nil, Rows.uptoBulkAll]
      omega
    have hb6 : Rows.uptoBulk y6.1 ≤ Rows.uptoBulk dd := by
      rw [hx1]
      simp only [Rows.uptoBulk, List.map_cons, List.map_nil, Rows.uptoBulkAll]
      omega
    obtain ⟨a4, l4, c4, e4, z4, b4, r4⟩ := open_rd Try.underlying49 cellsB1 (by decide) IsBy (fun _ _ _ _ h => open_By h) (fun _ _ _ _ h _ => h) (fun _ _ _ h => by unfold IsBy at h; subst h; exact ⟨rfl, fun u hu => by simp at hu; subst hu; rfl⟩) (show DataW.trod enc Try.prog W 0 (fun _ => true) true _ _ [x4] = some (y4.1, y4.2) from h4)
    obtain ⟨n5, e5, _, _⟩ := DataW.trod_int Try.underlying3 h5
    obtain ⟨a6, l6, c6, e6, z6, b6, r6⟩ := open_rd Try.underlying50 cellsRl (by decide) IsRl (fun _ _ _ _ h => open_Rl h) (fun _ _ _ _ h _ => h) (fun _ _ _ h => by unfold IsRl at h; subst h; exact ⟨rfl, fun u hu => by simp at hu; rcases hu with rfl | rfl | rfl | rfl <;> rfl⟩) (show DataW.trod enc Try.prog W 0 (fun _ => true) true _ _ [x6] = some (y6.1, y6.2) from h6)
    simp at e0 e1 e2 e3 e5
    unfold maxLen at z0
    exact ⟨⟨s0, n1, n2, n3, a4, l4, c4, n5, a6, l6, c6⟩, by rw [e0, e1, e2, e3, e4, e5, e6], z0, r4, r6, z4, z6, by dsimp only; omega, by dsimp only; omega⟩
/-- Both parts of an object. -/
theorem open_2 {f1 f2 : Nat} {c0 c1 : Value} {d0 d1 : DataW H} {p0 p1 : List MemPlace} (h0 : DataW.trod enc Try.prog W 0 (fun _ => true) true f1 38 [c0] = some (d0, p0)) (h1 : DataW.trod enc Try.prog W 0 (fun _ => true) true f2 39 [c1] = some (d1, p1)) {N : Nat} (b0 : Rows.uptoBulk d0 + Rows.uptoBulk d1 ≤ N) : ∃ z, IsFl W [c0, c1] N z := by
  obtain ⟨sa, sc, secs, ef, _, hl1, _, hl2, hl3⟩ := open_list Try.underlying38 cellsSec (by decide) (IsSc W) (fun _ _ _ _ h => open_Sc h) (fun _ _ _ _ h hm => ⟨h.1, h.2.1, h.2.2.mono hm⟩) (fun _ => 0) (fun _ _ _ _ => Nat.zero_le _) h0
  obtain ⟨ya, yc, syms, es, kno, kl1, _, kl2, kl3⟩ := open_list Try.underlying39 cellsSym6 (by decide) IsYm (fun _ _ _ _ h => open_Ym h) (fun _ _ _ _ h _ => h) (fun _ => 0) (fun _ _ _ _ => Nat.zero_le _) h1
  simp at ef es
  subst ef es
  refine ⟨⟨sa, sc, secs, ya, yc, syms⟩, rfl, ⟨?_, ?_⟩, fun s hs => ?_, fun s hs => ?_, by dsimp only; omega, fun s hs => ?_, ?_, kno⟩
  · rcases hl3 with h | ⟨b, off, e, h⟩
    · exact .inl (List.eq_nil_of_length_eq_zero h)
    · refine .inr ⟨b, off, e, fun i hi => ?_⟩
      obtain ⟨ces, k, rfl, _⟩ := h i hi
      exact ⟨k 0 (by decide), k 1 (by decide), k 2 (by decide), k 3 (by decide), k 4 (by decide), k 5 (by decide), k 6 (by decide)⟩
  · rcases kl3 with h | ⟨b, off, e, h⟩
    · exact .inl (List.eq_nil_of_length_eq_zero h)
    · refine .inr ⟨b, off, e, fun i hi => ?_⟩
      obtain ⟨ces, k, rfl, _⟩ := h i hi
      exact ⟨k 0 (by decide), k 1 (by decide), k 2 (by decide), k 3 (by decide), k 4 (by decide), k 5 (by decide)⟩
  · obtain ⟨_, _, h, _⟩ := hl2 s hs
    exact h
  · obtain ⟨_, _, h⟩ := kl2 s hs
    exact h
  · obtain ⟨_, _, _, h⟩ := hl2 s hs
    exact h.mono (by omega)
  · refine ⟨flat_len symc_len syms, ?_, ?_⟩
    · intro u hu
      obtain ⟨y, _, hu⟩ := List.mem_flatMap.1 hu
      simp only [Sym.cells, List.mem_cons, List.not_mem_nil, or_false] at hu
      rcases hu with rfl | rfl | rfl | rfl | rfl | rfl <;> rfl
    · rcases kl3 with h | ⟨b, off, e, h⟩
      · have hn := List.eq_nil_of_length_eq_zero h
        subst hn
        cases ya with
        | none => exact .inl ⟨rfl, rfl⟩
        | some ad => exact .inr ⟨ad, rfl, fun j u hj => by simp at hj⟩
      · refine .inr ⟨⟨b, off, none⟩, e, fun j u hj => ?_⟩
        have hjl := (List.getElem?_eq_some_iff.1 hj).1
        rw [flat_len symc_len] at hjl
        dsimp only at hjl
        have hi : j / 6 < syms.length := by omega
        have e1 : j = j / 6 * 6 + j % 6 := by omega
        rw [e1, flat_at symc_len syms (j / 6) (j % 6) hi (by omega)] at hj
        obtain ⟨ces, k1, rfl, _⟩ := h (j / 6) hi
        have hg : syms.getD (j / 6) default = syms[j / 6] := by simp [hi]
        have := k1 (j % 6) (by omega)
        rw [hg, hj] at this
        rw [addr_add, show off + j = off + j / 6 * 6 + j % 6 by omega]
        exact this
set_option maxRecDepth 20000 in
theorem open_Fl (h : DataW.trod enc Try.prog W 0 (fun _ => true) true fuel 41 cs = some (dd, p)) : ∃ z, IsFl W cs (Rows.uptoBulk dd) z := by
  obtain ⟨xs, n, _, hx, hl, hlen, hfs⟩ := DataW.trod_struct Try.underlying41 h
  rw [cellsFl] at hl
  match cs, hl, xs, hlen with
  | [c0, c1], _, [y0, y1], _ =>
    have h0 := hfs 0 _ rfl
    have h1 := hfs 1 _ rfl
    simp [cellsYs, cellsXs] at h0 h1
    have hb : Rows.uptoBulk y0.1 + Rows.uptoBulk y1.1 ≤ Rows.uptoBulk dd := by
      have hx1 : dd = _ := congrArg Prod.fst hx
      rw [hx1]
      simp only [Rows.uptoBulk, List.map_cons, List.map_nil, Rows.uptoBulkAll]
      omega
    exact open_2 (show DataW.trod enc Try.prog W 0 (fun _ => true) true _ _ [c0] = some (y0.1, y0.2) from h0) (show DataW.trod enc Try.prog W 0 (fun _ => true) true _ _ [c1] = some (y1.1, y1.2) from h1) hb
end
theorem flB_of {W : World} {cs : List Value} {n : Nat} {z : Fl} (h : IsFl W cs n z) (hn : n ≤ 1048576) : FlB z := by
  obtain ⟨_, _, h1, h2, h3, _⟩ := h
  exact ⟨by omega, by omega, h1, h2⟩
/-- The same as FlsB, with half the bound. -/
structure FlsC (l : List Fl) : Prop where
  n : l.length ≤ 1048576
  each : ∀ f ∈ l, FlB f
  sum : (l.map (fun f => f.secs.length + f.syms.length)).sum ≤ 1048576
theorem occ_len : ∀ l : List Fl, (occ l).length ≤ (l.map (fun f => f.secs.length + f.syms.length)).sum := by
  intro l
  induction l using list_snoc2 with
  | h0 => exact Nat.le_refl _
  | h1 l f ih =>
    rw [occ_snoc, List.length_append, List.map_append, List.sum_append]
    simp [ocs]
    omega
theorem secs_len : ∀ l : List Fl, (l.flatMap (·.secs)).length ≤ (l.map (fun f => f.secs.length + f.syms.length)).sum
  | [] => Nat.le_refl _
  | f :: r => by
    have := secs_len r
    simp only [List.flatMap_cons, List.length_append, List.map_cons, List.sum_cons]
    omega
theorem FlsC.b {l : List Fl} (h : FlsC l) : FlsB l := ⟨by have := h.n; omega, h.each, by have := occ_len l; have := h.sum; omega, by have := secs_len l; have := h.sum; omega⟩
set_option maxRecDepth 20000 in
/-- Objects that are handed in. -/
theorem open_Fls {H : Type} {enc : TypeId × Value → H} {W : World} {base : Nat} {v : Value} {dd : DataW H} {p : List MemPlace} (hv : Value.okWide Try.prog W .any base 22 v) (h : DataW.Trod enc Try.prog W 0 (fun _ => true) true 22 v dd p) (hk : Rows.uptoBulk dd ≤ 1048576) :
    ∃ ao c l, v = .slice ao l.length c ∧ (Fls W ao l ∧ FlsC l ∧ (ao = none → c = 0)) ∧ (∀ f ∈ l, RdF W f) ∧ DnB l := by
  obtain ⟨a0, len0, cap0, rfl⟩ := okWide_slice Try.underlying22 hv
  obtain ⟨fuel, hf⟩ := h
  obtain ⟨ao, cap, l, el, hno, hl1, hsum, hl2, hl3⟩ := open_list Try.underlying22 cellsFl (by decide) (IsFl W) (fun _ _ _ _ h => open_Fl h) (fun _ n m z ⟨a, b, c, d, e, f, g⟩ hnm => ⟨a, b, c, d, Nat.le_trans e hnm, fun s hs => (f s hs).mono hnm, g⟩) (fun z => z.secs.length + z.syms.length) (fun _ _ _ ⟨_, _, _, _, e, _⟩ => e) hf
  simp [Value.cells] at el
  obtain ⟨rfl, rfl, rfl⟩ := el
  refine ⟨a0, cap0, l, rfl, ⟨?_, ⟨Nat.le_trans hl1 hk, fun f hf => ?_, Nat.le_trans hsum hk⟩, hno⟩, fun f hf => ?_, fun f hf s hs => ?_⟩
  · rcases hl3 with h | ⟨b, off, e, h⟩
    · exact .inl (List.eq_nil_of_length_eq_zero h)
    · refine .inr ⟨b, off, e, fun i hi => ?_⟩
      obtain ⟨ces, k, rfl, h2, _⟩ := h i hi
      exact ⟨k 0 (by decide), k 1 (by decide), h2⟩
  · obtain ⟨ces, hP⟩ := hl2 f hf
    exact flB_of hP hk
  · obtain ⟨ces, _, _, _, _, _, h1, h2, h3⟩ := hl2 f hf
    exact ⟨fun s hs => (h1 s hs).s hk, h2, h3⟩
  · obtain ⟨ces, _, _, _, _, _, h1, _⟩ := hl2 f hf
    exact ((h1 s hs).s hk).dn
set_option maxRecDepth 20000 in
/-- One object that is handed in. -/
theorem open_One {H : Type} {enc : TypeId × Value → H} {W : World} {base : Nat} {v : Value} {dd : DataW H} {p : List MemPlace} (hv : Value.okWide Try.prog W .any base 41 v) (h : DataW.Trod enc Try.prog W 0 (fun _ => true) true 41 v dd p) (hk : Rows.uptoBulk dd ≤ 1048576) :
    ∃ f : Fl, v = f.val ∧ (FlIn W f ∧ FlB f ∧ f.secs.length + f.syms.length ≤ 1048576) ∧ RdF W f := by
  obtain ⟨v0, v1, y0, y1, n, rfl, rfl, rfl, h0, h1⟩ := Go.Joins.open_agg2 Try.underlying41 (by kernel_rfl) (by kernel_rfl) hv h
  simp only [Rows.uptoBulk, Rows.uptoBulkAll] at hk
  obtain ⟨z, hP⟩ := open_2 (N := 1048576) (show DataW.trod enc Try.prog W 0 (fun _ => true) true _ _ [v0] = some (y0.1, y0.2) from h0) (show DataW.trod enc Try.prog W 0 (fun _ => true) true _ _ [v1] = some (y1.1, y1.2) from h1) (by omega)
  have hw := flB_of hP (Nat.le_refl _)
  obtain ⟨e, h2, h3, h4, h5, h6, h7, h8⟩ := hP
  simp at e
  obtain ⟨rfl, rfl⟩ := e
  exact ⟨z, rfl, ⟨h2, hw, h5⟩, fun s hs => (h6 s hs).s (Nat.le_refl _), h7, h8⟩
end Go.Proofs.Ytojiomkinhnodaa
