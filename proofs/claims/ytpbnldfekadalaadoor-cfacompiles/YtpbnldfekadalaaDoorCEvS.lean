/- Events that are handed in, opened. -/
import Derived.Test.YtpbnldfekadalaaDoorCEvT
import Derived.Test.YtpbnldfekadalaaDoorCOpen
namespace Go.Proofs.YtpbnldfekadalaaDoor
open Go.ChangeShapes Go.WideShapes Go.ChangeAt Go.RowKit
set_option linter.unusedVariables false
set_option linter.unusedSimpArgs false

theorem i64_inM {a : Int} (h : (Lit.int .i64 a).wf = true) : -9223372036854775808 ≤ a ∧ a ≤ 9223372036854775807 := by
  simpa [Lit.wf, IntKind.min, IntKind.max, IntKind.signed, IntKind.bits] using h
/-- What is read is not too great. -/
def Wt {H : Type} (t : TypeId) (d : DataW H) : Prop := ∀ n ∈ d.weights Tryd.prog t, n ≤ 140737488351232
theorem wt_all {H : Type} {e : TypeId} {d : DataW H} : ∀ {l : List (DataW H)}, d ∈ l → ∀ n ∈ d.weights Tryd.prog e, n ∈ DataW.weightsAll Tryd.prog e l
  | x :: r, h, n, hn => by
    simp only [DataW.weightsAll, List.mem_append]
    rcases List.mem_cons.1 h with e | e
    · subst e; exact .inl hn
    · exact .inr (wt_all e n hn)
theorem wt_len {H : Type} {t e : TypeId} {es sp : List (DataW H)} {d : DataW H} (hd : d = .slice es sp) (hu : Tryd.prog.underlying t = some (.slice e)) (h : Wt t d) : es.length * Tryd.prog.bytesOf e ≤ 140737488351232 := by
  subst hd
  have := h ((es.length + sp.length) * Tryd.prog.bytesOf e) (by simp [DataW.weights, hu])
  exact Nat.le_trans (Nat.mul_le_mul_right _ (Nat.le_add_right _ _)) this
theorem wt_elem {H : Type} {t e : TypeId} {es sp : List (DataW H)} {d x : DataW H} (hd : d = .slice es sp) (hu : Tryd.prog.underlying t = some (.slice e)) (h : Wt t d) (hx : x ∈ es) : Wt e x := by
  subst hd
  intro n hn
  exact h n (by simp only [DataW.weights, hu, List.mem_cons, List.mem_append]; exact .inr (.inl (wt_all hx n hn)))
theorem wt_spare {H : Type} {t e : TypeId} {es sp : List (DataW H)} {d x : DataW H} (hd : d = .slice es sp) (hu : Tryd.prog.underlying t = some (.slice e)) (h : Wt t d) (hx : x ∈ sp) : Wt e x := by
  subst hd
  intro n hn
  exact h n (by simp only [DataW.weights, hu, List.mem_cons, List.mem_append]; exact .inr (.inr (wt_all hx n hn)))
theorem bytesI : Tryd.prog.bytesOf 3 = 8 := by kernel_rfl
theorem bytesEv : Tryd.prog.bytesOf 26 = 48 := by kernel_rfl
theorem cells3I : Tryd.prog.cellsOf 3 = 1 := by kernel_rfl
theorem cells9I : Tryd.prog.cellsOf 9 = 1 := by kernel_rfl
theorem cellsIs : Tryd.prog.cellsOf 24 = 1 := by kernel_rfl
theorem cellsEv : Tryd.prog.cellsOf 26 = 3 := by kernel_rfl
set_option maxRecDepth 20000 in
theorem open_ints_t {H : Type} {enc : TypeId × Value → H} {W : World} {fuel : Nat} {cs : List Value} {d : DataW H} {p : List MemPlace} (hf : DataW.trod enc Tryd.prog W 0 (fun _ => true) true fuel 24 cs = some (d, p)) (hw : Wt 24 d) :
    ∃ ao c l, cs = [.slice ao l.length c] ∧ Ia W ao l ∧ (ao = none → c = 0) ∧ l.length ≤ 17592186044000 := by
  rcases Deep.open_slice Tryd.underlying24 hf with ⟨hcs, _⟩ | ⟨a, len, cap, m, n, D, Pl, hcs, _, hl, hm, hmm, hx, hcell⟩
  · exact ⟨none, 0, [], hcs, .inl rfl, fun _ => rfl, by simp⟩
  · obtain ⟨hx1, hx2⟩ := Prod.mk.inj hx
    have hlm : len ≤ m := by rw [hmm]; split <;> omega
    have each : ∀ i, i < m → ∃ z : Int, W.cells? 0 (a.add (i * 1)) 1 = some [Value.int .i64 z] := fun i hi => by
      obtain ⟨cs', h1, h2⟩ := hcell i hi
      rw [cells3I] at h1
      obtain ⟨x0, e0, _, z0⟩ := DataW.trod_int Tryd.underlying3 h2
      subst e0
      exact ⟨x0, h1⟩
    obtain ⟨Sx, hS⟩ := Deep.choose_lt each
    refine ⟨some a, cap, (List.range len).map Sx, by simpa using hcs, ?_, (fun e => by cases e), ?_⟩
    rotate_left
    · have := wt_len hx1 Tryd.underlying24 hw
      rw [bytesI] at this
      simp at this ⊢
      omega
    by_cases h0 : len = 0
    · left; simp [h0]
    · right
      obtain ⟨b, off, spot⟩ := a
      have cellAt : ∀ i, i < m → W.cell? ((⟨b, off, spot⟩ : Addr).add (i * 1) |>.add 0) = some (.int .i64 (Sx i)) := fun i hi => by
        have := (World.cells?_some (hS i hi))
        exact this.2.2 0 (by decide)
      have hc := cellAt 0 (by omega)
      have hspot : spot = Option.none := World.cell?_spot (v := .int .i64 (Sx 0)) hc
      subst hspot
      refine ⟨b, off, rfl, fun i hi => ?_⟩
      have hi' : i < len := by simpa using hi
      have e : ((List.range len).map Sx).getD i 0 = Sx i := by simp [hi']
      rw [e]
      have k := cellAt i (by omega)
      rw [addr_add2] at k
      simpa using k
instance : Inhabited Ev := ⟨Ev.zero⟩
/-- What an event's cells are. -/
def IsV (W : World) (cs : List Value) (z : Ev) : Prop := ∃ a c, cs = [.int .i64 z.p, .string z.s, .slice a z.a.length c] ∧ Ia W a z.a ∧ (a = none → c = 0)
set_option maxRecDepth 20000 in
theorem open_V1 {H : Type} {enc : TypeId × Value → H} {W : World} {fuel : Nat} {cs : List Value} {dd : DataW H} {p : List MemPlace}
    (h : DataW.trod enc Tryd.prog W 0 (fun _ => true) true fuel 26 cs = some (dd, p)) (hw : Wt 26 dd) : ∃ z : Ev, IsV W cs z ∧ z.a.length ≤ 17592186044000 ∧ (Lit.int .i64 z.p).wf = true := by
  obtain ⟨xs, n, _, hx, hl, hlen, hfs⟩ := DataW.trod_struct Tryd.underlying26 h
  rw [cellsEv] at hl
  match cs, hl, xs, hlen with
  | [c0, c1, c2], _, [y0, y1, y2], _ =>
    have h0 := hfs 0 _ rfl
    have h1 := hfs 1 _ rfl
    have h2 := hfs 2 _ rfl
    simp [cells3I, cells9I, cellsIs] at h0 h1 h2
    obtain ⟨x0, e0, _, z0⟩ := DataW.trod_int Tryd.underlying3 h0
    obtain ⟨x1, e1, _, z1⟩ := DataW.trod_string Tryd.underlying9 h1
    have hwy : Wt 24 y2.1 := by
      have hx1 := congrArg Prod.fst hx
      dsimp only at hx1
      intro m hm
      refine hw m ?_
      rw [hx1]
      simp only [DataW.weights, Tryd.underlying26]
      exact DataW.weights_mem_each (j := 2) rfl rfl m hm
    obtain ⟨a, c, l, el, hI, hnl, hb⟩ := open_ints_t (show DataW.trod enc Tryd.prog W 0 (fun _ => true) true _ _ [c2] = some (y2.1, y2.2) from h2) hwy
    simp at e0 e1 el
    subst e0 e1 el
    exact ⟨⟨x0, x1, l⟩, ⟨a, c, rfl, hI, hnl⟩, hb, z0⟩
/-- What is handed in without room is nil. -/
def EvNil (w : World) (ao : Option Addr) (l : List Ev) : Prop := ∀ b off, ao = some ⟨b, off, none⟩ → ∀ i, i < l.length → ∀ n c, w.cell? ⟨b, off + i * 3 + 2, none⟩ = some (.slice none n c) → c = 0
set_option maxRecDepth 20000 in
theorem open_Evs {H : Type} {enc : TypeId × Value → H} {W : World} {base : Nat} {v : Value} {dd : DataW H} {p : List MemPlace} (hv : Value.okWide Tryd.prog W .any base 22 v) (h : DataW.Trod enc Tryd.prog W 0 (fun _ => true) true 22 v dd p) (hw : Wt 22 dd) :
    ∃ ao c l, v = .slice ao l.length c ∧ Evs W ao l ∧ l.length ≤ 2932031007400 ∧ (∀ x ∈ l, x.a.length ≤ 17592186044000) ∧ (∀ x ∈ l, (Lit.int .i64 x.p).wf = true) ∧ EvNil W ao l := by
  obtain ⟨a0, len0, cap0, rfl⟩ := okWide_slice Tryd.underlying22 hv
  obtain ⟨fuel, hf⟩ := h
  rcases Deep.open_slice Tryd.underlying22 hf with ⟨hcs, _⟩ | ⟨a, len, cap, m, n, D, Pl, hcs, _, hl, hm, hmm, hx, hcell⟩
  · simp [Value.cells] at hcs
    obtain ⟨rfl, rfl, rfl⟩ := hcs
    exact ⟨none, 0, [], rfl, .inl rfl, by simp, (fun x hx => by cases hx), (fun x hx => by cases hx), fun b off e => (by cases e)⟩
  · simp [Value.cells] at hcs
    obtain ⟨rfl, rfl, rfl⟩ := hcs
    obtain ⟨hx1, hx2⟩ := Prod.mk.inj hx
    have hlm : len0 ≤ m := by rw [hmm]; split <;> omega
    have helem : ∀ i, i < m → Wt 26 (D i) := fun i hi => by
      by_cases hil : i < len0
      · exact wt_elem hx1 Tryd.underlying22 hw (List.mem_map.2 ⟨i, List.mem_range.2 hil, rfl⟩)
      · exact wt_spare hx1 Tryd.underlying22 hw (List.mem_map.2 ⟨i - len0, List.mem_range.2 (by omega), by congr 1; omega⟩)
    have each : ∀ i, i < m → ∃ z : Ev, ∃ cs, W.cells? 0 (a.add (i * 3)) 3 = some cs ∧ IsV W cs z ∧ z.a.length ≤ 17592186044000 ∧ (Lit.int .i64 z.p).wf = true := fun i hi => by
      obtain ⟨cs', h1, h2⟩ := hcell i hi
      rw [cellsEv] at h1
      obtain ⟨z, hz, hb, hw2⟩ := open_V1 h2 (helem i hi)
      exact ⟨z, cs', h1, hz, hb, hw2⟩
    obtain ⟨Sx, hS⟩ := Deep.choose_lt each
    refine ⟨some a, cap0, (List.range len0).map Sx, by simp, ?_, ?_, fun x hx => ?_, fun x hx => ?_, ?_⟩
    rotate_left
    · have := wt_len hx1 Tryd.underlying22 hw
      rw [bytesEv] at this
      simp at this ⊢
      omega
    · obtain ⟨i, hi, rfl⟩ := List.mem_map.1 hx
      have hi2 := List.mem_range.1 hi
      obtain ⟨_, _, _, hb, _⟩ := hS i (by omega)
      exact hb
    · obtain ⟨i, hi, rfl⟩ := List.mem_map.1 hx
      have hi2 := List.mem_range.1 hi
      obtain ⟨_, _, _, _, hw⟩ := hS i (by omega)
      exact hw
    · intro b off e i hi n c hc
      have hi' : i < len0 := by simpa using hi
      cases e
      obtain ⟨cs, h1, ⟨a, c', rfl, _, hN⟩, _, _⟩ := hS i (by omega)
      have k2 := (World.cells?_some h1).2.2 2 (by decide)
      rw [addr_add2] at k2
      rw [hc] at k2
      simp at k2
      obtain ⟨e1, _, e2⟩ := k2
      rw [e2]
      exact hN e1.symm
    by_cases h0 : len0 = 0
    · left; simp [h0]
    · right
      obtain ⟨b, off, spot⟩ := a
      have hcells : ∀ i, i < m → ∃ a c, Ia W a (Sx i).a ∧ (a = none → c = 0) ∧ ∀ j, j < 3 → W.cell? ((⟨b, off, spot⟩ : Addr).add (i * 3) |>.add j) = [Value.int .i64 (Sx i).p, Value.string (Sx i).s, .slice a (Sx i).a.length c][j]? := fun i hi => by
        obtain ⟨cs, h1, ⟨a, c, rfl, hI, hN⟩, _, _⟩ := hS i hi
        have := (World.cells?_some h1)
        exact ⟨a, c, hI, hN, fun j hj => this.2.2 j hj⟩
      obtain ⟨_, _, _, _, hc0⟩ := hcells 0 (by omega)
      have hc := hc0 0 (by omega)
      have hspot : spot = Option.none := World.cell?_spot (v := .int .i64 (Sx 0).p) hc
      subst hspot
      refine ⟨b, off, rfl, fun i hi => ?_⟩
      have hi' : i < len0 := by simpa using hi
      have e : ((List.range len0).map Sx).getD i Ev.zero = Sx i := by simp [hi']
      rw [e]
      obtain ⟨a, c, hI, hN, k⟩ := hcells i (by omega)
      have k0 := k 0 (by omega); have k1 := k 1 (by omega); have k2 := k 2 (by omega)
      rw [addr_add2] at k0 k1 k2
      exact ⟨a, c, k0, k1, k2, hI⟩
end Go.Proofs.YtpbnldfekadalaaDoor
