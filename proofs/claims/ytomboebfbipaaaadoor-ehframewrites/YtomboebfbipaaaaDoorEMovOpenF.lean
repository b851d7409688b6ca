/- Tables that are handed in, opened. -/
import Derived.Test.YtomboebfbipaaaaDoorEMovX
import Derived.Test.YtomboebfbipaaaaDoorCOpenX
namespace Go.Proofs.YtomboebfbipaaaaDoor
open Go.ChangeShapes Go.WideShapes Go.ChangeAt Go.RowKit
set_option linter.unusedVariables false
set_option linter.unusedSimpArgs false

theorem i64_inM {a : Int} (h : (Lit.int .i64 a).wf = true) : -9223372036854775808 ≤ a ∧ a ≤ 9223372036854775807 := by
  simpa [Lit.wf, IntKind.min, IntKind.max, IntKind.signed, IntKind.bits] using h
/-- What is read is not too great. -/
def Wt {H : Type} (t : TypeId) (d : DataW H) : Prop := ∀ n ∈ d.weights Tryd.prog t, n ≤ 140737488351232
theorem wt_all {H : Type} {e : TypeId} {d : DataW H} : ∀ {l : List (DataW H)}, d ∈ l → ∀ n ∈ d.weights Tryd.prog e, n ∈ DataW.weightsAll Tryd.prog e l
  | x :: r, h, n, hn => by
    simp only [DataW.weightsAll, List.mem_append]
    rcases List.mem_cons.1 h with e | e
    · subst e; exact .inl hn
    · exact .inr (wt_all e n hn)
theorem wt_len {H : Type} {t e : TypeId} {es sp : List (DataW H)} {d : DataW H} (hd : d = .slice es sp) (hu : Tryd.prog.underlying t = some (.slice e)) (h : Wt t d) : es.length * Tryd.prog.bytesOf e ≤ 140737488351232 := by
  subst hd
  have := h ((es.length + sp.length) * Tryd.prog.bytesOf e) (by simp [DataW.weights, hu])
  exact Nat.le_trans (Nat.mul_le_mul_right _ (Nat.le_add_right _ _)) this
theorem wt_elem {H : Type} {t e : TypeId} {es sp : List (DataW H)} {d x : DataW H} (hd : d = .slice es sp) (hu : Tryd.prog.underlying t = some (.slice e)) (h : Wt t d) (hx : x ∈ es) : Wt e x := by
  subst hd
  intro n hn
  exact h n (by simp only [DataW.weights, hu, List.mem_cons, List.mem_append]; exact .inr (.inl (wt_all hx n hn)))
theorem wt_spare {H : Type} {t e : TypeId} {es sp : List (DataW H)} {d x : DataW H} (hd : d = .slice es sp) (hu : Tryd.prog.underlying t = some (.slice e)) (h : Wt t d) (hx : x ∈ sp) : Wt e x := by
  subst hd
  intro n hn
  exact h n (by simp only [DataW.weights, hu, List.mem_cons, List.mem_append]; exact .inr (.inr (wt_all hx n hn)))
theorem bytesCe : Tryd.prog.bytesOf 54 = 32 := by kernel_rfl
theorem bytesFe : Tryd.prog.bytesOf 79 = 48 := by kernel_rfl
theorem cells52 : Tryd.prog.cellsOf 52 = 1 := by kernel_rfl
set_option maxRecDepth 20000 in
theorem open_oqs_t {H : Type} {enc : TypeId × Value → H} {W : World} {fuel : Nat} {cs : List Value} {d : DataW H} {p : List MemPlace} (hf : DataW.trod enc Tryd.prog W 0 (fun _ => true) true fuel 52 cs = some (d, p)) (hw : Wt 52 d) :
    ∃ ao c l, cs = [.slice ao l.length c] ∧ IsOq W ao c l ∧ l.length ≤ 5864062014634 := by
  rcases Deep.open_slice Tryd.underlying52 hf with ⟨hcs, _⟩ | ⟨a, len, cap, m, n, D, Pl, hcs, _, hl, hm, hmm, hx, hcell⟩
  · exact ⟨none, 0, [], hcs, ⟨.inl rfl, fun _ => ⟨rfl, rfl⟩, by simp, by omega⟩, by simp⟩
  · obtain ⟨hx1, hx2⟩ := Prod.mk.inj hx
    have hlm : len ≤ m := by rw [hmm]; split <;> omega
    have each : ∀ i, i < m → ∃ z : Oq, W.cells? 0 (a.add (i * 3)) 3 = some z.cells := fun i hi => by
      obtain ⟨cs', h1, h2⟩ := hcell i hi
      rw [cellsOq] at h1
      obtain ⟨z, rfl⟩ := open_oq h2
      exact ⟨z, h1⟩
    obtain ⟨Sx, hS⟩ := Deep.choose_lt each
    refine ⟨some a, cap, (List.range len).map Sx, by simpa using hcs, ⟨?_, (fun e => by cases e), by simpa using hl, by unfold maxLen at hm; omega⟩, ?_⟩
    rotate_left
    · have := wt_len hx1 Tryd.underlying52 hw
      rw [bytesOq] at this
      simp at this ⊢
      omega
    by_cases h0 : len = 0
    · left; subst h0; rfl
    · right
      obtain ⟨b, off, spot⟩ := a
      have cellAt : ∀ i, i < m → ∀ j, j < 3 → W.cell? ((⟨b, off, spot⟩ : Addr).add (i * 3) |>.add j) = (Sx i).cells[j]? := fun i hi j hj => by
        have := (World.cells?_some (hS i hi))
        exact this.2.2 j hj
      have hc := cellAt 0 (by omega) 0 (by omega)
      have hspot : spot = Option.none := World.cell?_spot (v := .int .i64 (Sx 0).k) hc
      subst hspot
      refine ⟨b, off, rfl, fun i hi => ?_⟩
      have hi' : i < len := by simpa using hi
      have e : ((List.range len).map Sx).getD i Oq.none = Sx i := by simp [hi']
      rw [e]
      have k := cellAt i (by omega)
      have k0 := k 0 (by omega); have k1 := k 1 (by omega); have k2 := k 2 (by omega)
      rw [addr_add2] at k0 k1 k2
      exact ⟨k0, k1, k2⟩
theorem cellsC : Tryd.prog.cellsOf 54 = 2 := by kernel_rfl
instance : Inhabited Ce := ⟨Ce.zero⟩
/-- What an entry's cells are. -/
def IsC (W : World) (cs : List Value) (z : Ce) : Prop := ∃ a c, cs = [.int .i64 z.enc, .slice a z.ini.length c] ∧ IsOq W a c z.ini
set_option maxRecDepth 20000 in
theorem open_C1 {H : Type} {enc : TypeId × Value → H} {W : World} {fuel : Nat} {cs : List Value} {dd : DataW H} {p : List MemPlace}
    (h : DataW.trod enc Tryd.prog W 0 (fun _ => true) true fuel 54 cs = some (dd, p)) (hw : Wt 54 dd) : ∃ z : Ce, IsC W cs z ∧ z.ini.length ≤ 5864062014634 ∧ (Lit.int .i64 z.enc).wf = true := by
  obtain ⟨xs, n, _, hx, hl, hlen, hfs⟩ := DataW.trod_struct Tryd.underlying54 h
  rw [cellsC] at hl
  match cs, hl, xs, hlen with
  | [c0, c1], _, [y0, y1], _ =>
    have h0 := hfs 0 _ rfl
    have h1 := hfs 1 _ rfl
    simp [cells3, cells52] at h0 h1
    obtain ⟨x0, e0, _, z0⟩ := DataW.trod_int Tryd.underlying3 h0
    have hwy : Wt 52 y1.1 := by
      have hx1 := congrArg Prod.fst hx
      dsimp only at hx1
      intro m hm
      refine hw m ?_
      rw [hx1]
      simp only [DataW.weights, Tryd.underlying54]
      exact DataW.weights_mem_each (j := 1) rfl rfl m hm
    obtain ⟨a, c, l, el, hI, hb⟩ := open_oqs_t (show DataW.trod enc Tryd.prog W 0 (fun _ => true) true _ _ [c1] = some (y1.1, y1.2) from h1) hwy
    simp at e0 el
    subst e0 el
    exact ⟨⟨x0, l⟩, ⟨a, c, rfl, hI⟩, hb, z0⟩
set_option maxRecDepth 20000 in
theorem open_Cs {H : Type} {enc : TypeId × Value → H} {W : World} {base : Nat} {v : Value} {dd : DataW H} {p : List MemPlace} (hv : Value.okWide Tryd.prog W .any base 37 v) (h : DataW.Trod enc Tryd.prog W 0 (fun _ => true) true 37 v dd p) (hw : Wt 37 dd) :
    ∃ ao c l, v = .slice ao l.length c ∧ Cs W ao l ∧ l.length ≤ 4398046511000 ∧ (∀ x ∈ l, x.ini.length ≤ 5864062014634) ∧ (∀ x ∈ l, (Lit.int .i64 x.enc).wf = true) := by
  obtain ⟨a0, len0, cap0, rfl⟩ := okWide_slice Tryd.underlying37 hv
  obtain ⟨fuel, hf⟩ := h
  rcases Deep.open_slice Tryd.underlying37 hf with ⟨hcs, _⟩ | ⟨a, len, cap, m, n, D, Pl, hcs, _, hl, hm, hmm, hx, hcell⟩
  · simp [Value.cells] at hcs
    obtain ⟨rfl, rfl, rfl⟩ := hcs
    exact ⟨none, 0, [], rfl, .inl rfl, by simp, (fun x hx => by cases hx), (fun x hx => by cases hx)⟩
  · simp [Value.cells] at hcs
    obtain ⟨rfl, rfl, rfl⟩ := hcs
    obtain ⟨hx1, hx2⟩ := Prod.mk.inj hx
    have hlm : len0 ≤ m := by rw [hmm]; split <;> omega
    have helem : ∀ i, i < m → Wt 54 (D i) := fun i hi => by
      by_cases hil : i < len0
      · exact wt_elem hx1 Tryd.underlying37 hw (List.mem_map.2 ⟨i, List.mem_range.2 hil, rfl⟩)
      · exact wt_spare hx1 Tryd.underlying37 hw (List.mem_map.2 ⟨i - len0, List.mem_range.2 (by omega), by congr 1; omega⟩)
    have each : ∀ i, i < m → ∃ z : Ce, ∃ cs, W.cells? 0 (a.add (i * 2)) 2 = some cs ∧ IsC W cs z ∧ z.ini.length ≤ 5864062014634 ∧ (Lit.int .i64 z.enc).wf = true := fun i hi => by
      obtain ⟨cs', h1, h2⟩ := hcell i hi
      rw [cellsC] at h1
      obtain ⟨z, hz, hb, hw2⟩ := open_C1 h2 (helem i hi)
      exact ⟨z, cs', h1, hz, hb, hw2⟩
    obtain ⟨Sx, hS⟩ := Deep.choose_lt each
    refine ⟨some a, cap0, (List.range len0).map Sx, by simp, ?_, ?_, fun x hx => ?_, fun x hx => ?_⟩
    rotate_left
    · have := wt_len hx1 Tryd.underlying37 hw
      rw [bytesCe] at this
      simp at this ⊢
      omega
    · obtain ⟨i, hi, rfl⟩ := List.mem_map.1 hx
      have hi2 := List.mem_range.1 hi
      obtain ⟨_, _, _, hb, _⟩ := hS i (by omega)
      exact hb
    · obtain ⟨i, hi, rfl⟩ := List.mem_map.1 hx
      have hi2 := List.mem_range.1 hi
      obtain ⟨_, _, _, _, hw⟩ := hS i (by omega)
      exact hw
    by_cases h0 : len0 = 0
    · left; simp [h0]
    · right
      obtain ⟨b, off, spot⟩ := a
      have hcells : ∀ i, i < m → ∃ a c, IsOq W a c (Sx i).ini ∧ ∀ j, j < 2 → W.cell? ((⟨b, off, spot⟩ : Addr).add (i * 2) |>.add j) = [Value.int .i64 (Sx i).enc, .slice a (Sx i).ini.length c][j]? := fun i hi => by
        obtain ⟨cs, h1, ⟨a, c, rfl, hI⟩, _, _⟩ := hS i hi
        have := (World.cells?_some h1)
        exact ⟨a, c, hI, fun j hj => this.2.2 j hj⟩
      obtain ⟨_, _, _, hc0⟩ := hcells 0 (by omega)
      have hc := hc0 0 (by omega)
      have hspot : spot = Option.none := World.cell?_spot (v := .int .i64 (Sx 0).enc) hc
      subst hspot
      refine ⟨b, off, rfl, fun i hi => ?_⟩
      have hi' : i < len0 := by simpa using hi
      have e : ((List.range len0).map Sx).getD i Ce.zero = Sx i := by simp [hi']
      rw [e]
      obtain ⟨a, c, hI, k⟩ := hcells i (by omega)
      have k0 := k 0 (by omega); have k1 := k 1 (by omega)
      rw [addr_add2] at k0 k1
      exact ⟨a, c, k0, k1, hI⟩
theorem cellsF : Tryd.prog.cellsOf 79 = 4 := by kernel_rfl
instance : Inhabited Fe := ⟨Fe.zero⟩
/-- What an entry's cells are. -/
def IsF (W : World) (cs : List Value) (z : Fe) : Prop := ∃ a c, cs = [.int .i64 z.cie, .int .i64 z.beg, .int .i64 z.size, .slice a z.ops.length c] ∧ IsOq W a c z.ops
set_option maxRecDepth 20000 in
theorem open_F1 {H : Type} {enc : TypeId × Value → H} {W : World} {fuel : Nat} {cs : List Value} {dd : DataW H} {p : List MemPlace}
    (h : DataW.trod enc Tryd.prog W 0 (fun _ => true) true fuel 79 cs = some (dd, p)) (hw : Wt 79 dd) : ∃ z : Fe, IsF W cs z ∧ z.ops.length ≤ 5864062014634 ∧ (Lit.int .i64 z.cie).wf = true := by
  obtain ⟨xs, n, _, hx, hl, hlen, hfs⟩ := DataW.trod_struct Tryd.underlying79 h
  rw [cellsF] at hl
  match cs, hl, xs, hlen with
  | [c0, c1, c2, c3], _, [y0, y1, y2, y3], _ =>
    have h0 := hfs 0 _ rfl
    have h1 := hfs 1 _ rfl
    have h2 := hfs 2 _ rfl
    have h3 := hfs 3 _ rfl
    simp [cells3, cells52] at h0 h1 h2 h3
    obtain ⟨x0, e0, _, z0⟩ := DataW.trod_int Tryd.underlying3 h0
    obtain ⟨x1, e1, _, z1⟩ := DataW.trod_int Tryd.underlying3 h1
    obtain ⟨x2, e2, _, z2⟩ := DataW.trod_int Tryd.underlying3 h2
    have hwy : Wt 52 y3.1 := by
      have hx1 := congrArg Prod.fst hx
      dsimp only at hx1
      intro m hm
      refine hw m ?_
      rw [hx1]
      simp only [DataW.weights, Tryd.underlying79]
      exact DataW.weights_mem_each (j := 3) rfl rfl m hm
    obtain ⟨a, c, l, el, hI, hb⟩ := open_oqs_t (show DataW.trod enc Tryd.prog W 0 (fun _ => true) true _ _ [c3] = some (y3.1, y3.2) from h3) hwy
    simp at e0 e1 e2 el
    subst e0 e1 e2 el
    exact ⟨⟨x0, x1, x2, l⟩, ⟨a, c, rfl, hI⟩, hb, z0⟩
set_option maxRecDepth 20000 in
theorem open_Fs {H : Type} {enc : TypeId × Value → H} {W : World} {base : Nat} {v : Value} {dd : DataW H} {p : List MemPlace} (hv : Value.okWide Tryd.prog W .any base 38 v) (h : DataW.Trod enc Tryd.prog W 0 (fun _ => true) true 38 v dd p) (hw : Wt 38 dd) :
    ∃ ao c l, v = .slice ao l.length c ∧ Fs W ao l ∧ l.length ≤ 2932031007400 ∧ (∀ x ∈ l, x.ops.length ≤ 5864062014634) ∧ (∀ x ∈ l, (Lit.int .i64 x.cie).wf = true) := by
  obtain ⟨a0, len0, cap0, rfl⟩ := okWide_slice Tryd.underlying38 hv
  obtain ⟨fuel, hf⟩ := h
  rcases Deep.open_slice Tryd.underlying38 hf with ⟨hcs, _⟩ | ⟨a, len, cap, m, n, D, Pl, hcs, _, hl, hm, hmm, hx, hcell⟩
  · simp [Value.cells] at hcs
    obtain ⟨rfl, rfl, rfl⟩ := hcs
    exact ⟨none, 0, [], rfl, .inl rfl, by simp, (fun x hx => by cases hx), (fun x hx => by cases hx)⟩
  · simp [Value.cells] at hcs
    obtain ⟨rfl, rfl, rfl⟩ := hcs
    obtain ⟨hx1, hx2⟩ := Prod.mk.inj hx
    have hlm : len0 ≤ m := by rw [hmm]; split <;> omega
    have helem : ∀ i, i < m → Wt 79 (D i) := fun i hi => by
      by_cases hil : i < len0
      · exact wt_elem hx1 Tryd.underlying38 hw (List.mem_map.2 ⟨i, List.mem_range.2 hil, rfl⟩)
      · exact wt_spare hx1 Tryd.underlying38 hw (List.mem_map.2 ⟨i - len0, List.mem_range.2 (by omega), by congr 1; omega⟩)
    have each : ∀ i, i < m → ∃ z : Fe, ∃ cs, W.cells? 0 (a.add (i * 4)) 4 = some cs ∧ IsF W cs z ∧ z.ops.length ≤ 5864062014634 ∧ (Lit.int .i64 z.cie).wf = true := fun i hi => by
      obtain ⟨cs', h1, h2⟩ := hcell i hi
      rw [cellsF] at h1
      obtain ⟨z, hz, hb, hw2⟩ := open_F1 h2 (helem i hi)
      exact ⟨z, cs', h1, hz, hb, hw2⟩
    obtain ⟨Sx, hS⟩ := Deep.choose_lt each
    refine ⟨some a, cap0, (List.range len0).map Sx, by simp, ?_, ?_, fun x hx => ?_, fun x hx => ?_⟩
    rotate_left
    · have := wt_len hx1 Tryd.underlying38 hw
      rw [bytesFe] at this
      simp at this ⊢
      omega
    · obtain ⟨i, hi, rfl⟩ := List.mem_map.1 hx
      have hi2 := List.mem_range.1 hi
      obtain ⟨_, _, _, hb, _⟩ := hS i (by omega)
      exact hb
    · obtain ⟨i, hi, rfl⟩ := List.mem_map.1 hx
      have hi2 := List.mem_range.1 hi
      obtain ⟨_, _, _, _, hw⟩ := hS i (by omega)
      exact hw
    by_cases h0 : len0 = 0
    · left; simp [h0]
    · right
      obtain ⟨b, off, spot⟩ := a
      have hcells : ∀ i, i < m → ∃ a c, IsOq W a c (Sx i).ops ∧ ∀ j, j < 4 → W.cell? ((⟨b, off, spot⟩ : Addr).add (i * 4) |>.add j) = [Value.int .i64 (Sx i).cie, Value.int .i64 (Sx i).beg, Value.int .i64 (Sx i).size, .slice a (Sx i).ops.length c][j]? := fun i hi => by
        obtain ⟨cs, h1, ⟨a, c, rfl, hI⟩, _, _⟩ := hS i hi
        have := (World.cells?_some h1)
        exact ⟨a, c, hI, fun j hj => this.2.2 j hj⟩
      obtain ⟨_, _, _, hc0⟩ := hcells 0 (by omega)
      have hc := hc0 0 (by omega)
      have hspot : spot = Option.none := World.cell?_spot (v := .int .i64 (Sx 0).cie) hc
      subst hspot
      refine ⟨b, off, rfl, fun i hi => ?_⟩
      have hi' : i < len0 := by simpa using hi
      have e : ((List.range len0).map Sx).getD i Fe.zero = Sx i := by simp [hi']
      rw [e]
      obtain ⟨a, c, hI, k⟩ := hcells i (by omega)
      have k0 := k 0 (by omega); have k1 := k 1 (by omega); have k2 := k 2 (by omega); have k3 := k 3 (by omega)
      rw [addr_add2] at k0 k1 k2 k3
      exact ⟨a, c, k0, k1, k2, k3, hI⟩
theorem ehframeMoved_wk (a0 : Option Addr) (c0 : Nat) (z0 : List Ce) (a1 : Option Addr) (c1 : Nat) (z1 : List Fe) (addr d : Int) (w : World) (h0 : Cs w a0 z0) (y0 : z0.length ≤ 4398046511000 ∧ (∀ x ∈ z0, x.ini.length ≤ 5864062014634) ∧ ∀ x ∈ z0, (Lit.int .i64 x.enc).wf = true) (h1 : Fs w a1 z1) (y1 : z1.length ≤ 2932031007400 ∧ (∀ x ∈ z1, x.ops.length ≤ 5864062014634) ∧ ∀ x ∈ z1, (Lit.int .i64 x.cie).wf = true) (w2 : (Lit.int .i64 addr).wf = true) (w3 : (Lit.int .i64 d).wf = true) (hf : Fz w) :
    Calls Tryd.prog 5 #[.slice a0 z0.length c0, .slice a1 z1.length c1, .int .i64 addr, .int .i64 d] w fun e w' => e = .returned (.bool true) ∧ Below w.heap.size w w' :=
  ehframeMoved_walk a0 c0 z0 a1 c1 z1 addr d w h0 h1 y0.1 y1.1 y0.2.1 y1.2.1 (fun x hx => i64_inM (y0.2.2 x hx)) hf
end Go.Proofs.YtomboebfbipaaaaDoor
