/- Tokens that came in, and their bulk. -/
import Derived.Test.YthdkbjifjmhgoaaDoorRows
import Derived.Test.YthdkbjifjmhgoaaDoorLxWalks
import Derived.LaidLaws
import Derived.Deep.Slices
import Derived.ChangeOld
import Derived.OpenShut
namespace Go.Proofs.YthdkbjifjmhgoaaDoor
open Go.ChangeShapes Go.WideShapes Go.ChangeAt Go.RowKit
set_option linter.unusedVariables false
set_option linter.unusedSimpArgs false

theorem cellsTok : Tryd.prog.cellsOf 44 = 4 := by kernel_rfl
theorem cellsTI : Tryd.prog.cellsOf 3 = 1 := by kernel_rfl
theorem cellsTS : Tryd.prog.cellsOf 9 = 1 := by kernel_rfl
def dTok (H : Type) (p : TL) : DataW H := .agg [.lit (.int .i64 p.1.k), .lit (.int .i64 p.2), .lit (.int .i64 p.1.n), .lit (.string p.1.t)]
def Fit (p : TL) : Prop := -9223372036854775808 ≤ p.1.n ∧ p.1.n ≤ 9223372036854775807

set_option maxRecDepth 10000 in
/-- One token's cells. -/
theorem tok_cells {H : Type} {enc : TypeId × Value → H} {w : World} {base : Nat} {sp : Nat → Bool} {held : Bool} {fuel : Nat} {cs : List Value} {x : DataW H × List MemPlace}
    (h : DataW.trod enc Tryd.prog w base sp held fuel 44 cs = some x) : ∃ p : TL, cs = p.cells ∧ x.1 = dTok H p ∧ Fit p := by
  obtain ⟨xs, n, _, hx, hl, hlen, hfs⟩ := DataW.trod_struct Tryd.underlying44 h
  rw [cellsTok] at hl
  match cs, hl, xs, hlen with
  | [x0, x1, x2, x3], _, [y0, y1, y2, y3], _ =>
    have h0 := hfs 0 _ rfl
    have h1 := hfs 1 _ rfl
    have h2 := hfs 2 _ rfl
    have h3 := hfs 3 _ rfl
    simp [cellsTI, cellsTS] at h0 h1 h2 h3
    obtain ⟨n0, e0, f0, _⟩ := DataW.trod_int Tryd.underlying3 h0
    obtain ⟨n1, e1, f1, _⟩ := DataW.trod_int Tryd.underlying3 h1
    obtain ⟨n2, e2, f2, z2⟩ := DataW.trod_int Tryd.underlying3 h2
    obtain ⟨s3, e3, f3, _⟩ := DataW.trod_string Tryd.underlying9 h3
    simp at e0 e1 e2 e3
    refine ⟨(⟨n0, n2, s3.data.toList⟩, n1), by rw [e0, e1, e2, e3]; rfl, ?_, i64_bounds z2⟩
    rw [hx, f0, f1, f2, f3]
    rfl

set_option maxRecDepth 10000 in
theorem open_toks {H : Type} {enc : TypeId × Value → H} {W : World} {base : Nat} {v : Value} {d : DataW H} {p : List MemPlace} (hv : Value.okWide Tryd.prog W .any base 26 v) (h : DataW.Trod enc Tryd.prog W 0 (fun _ => true) true 26 v d p) :
    ∃ ao c l, v = .slice ao l.length c ∧ Toks W ao l ∧ (∀ p ∈ l, Fit p) ∧ (l = [] ∨ ∃ sp : List (DataW H), d = .slice (l.map (dTok H)) sp) := by
  obtain ⟨a0, len0, cap0, rfl⟩ := okWide_slice Tryd.underlying26 hv
  obtain ⟨fuel, hf⟩ := h
  rcases Deep.open_slice Tryd.underlying26 hf with ⟨hcs, _⟩ | ⟨a, len, cap, m, n, D, Pl, hcs, _, hl, hm, hmm, hx, hcell⟩
  · simp [Value.cells] at hcs
    obtain ⟨rfl, rfl, rfl⟩ := hcs
    exact ⟨none, 0, [], rfl, .inl rfl, (fun s hs => by cases hs), .inl rfl⟩
  · simp [Value.cells] at hcs
    obtain ⟨rfl, rfl, rfl⟩ := hcs
    obtain ⟨hx1, hx2⟩ := Prod.mk.inj hx
    have hlm : len0 ≤ m := by rw [hmm]; split <;> omega
    have each : ∀ i, i < m → ∃ s : TL, W.cells? 0 (a.add (i * 4)) 4 = some s.cells ∧ D i = dTok H s ∧ Fit s := fun i hi => by
      obtain ⟨cs', h1, h2⟩ := hcell i hi
      rw [cellsTok] at h1
      obtain ⟨s, rfl, h3, h4⟩ := tok_cells h2
      exact ⟨s, h1, h3, h4⟩
    haveI : Inhabited TL := ⟨TL.none⟩
    obtain ⟨Sx, hS⟩ := Deep.choose_lt each
    refine ⟨some a, cap0, (List.range len0).map Sx, by simp, ?_, fun s hs => ?_, .inr ⟨(List.range (m - len0)).map fun j => D (len0 + j), ?_⟩⟩
    · by_cases h0 : len0 = 0
      · left; subst h0; rfl
      · right
        obtain ⟨b, off, spot⟩ := a
        have cellAt : ∀ i, i < m → ∀ j, j < 4 → W.cell? ((⟨b, off, spot⟩ : Addr).add (i * 4) |>.add j) = (Sx i).cells[j]? := fun i hi j hj => by
          have := (World.cells?_some (hS i hi).1)
          exact this.2.2 j hj
        have hc := cellAt 0 (by omega) 0 (by omega)
        have hspot : spot = Option.none := World.cell?_spot (v := .int .i64 (Sx 0).1.k) hc
        subst hspot
        refine ⟨b, off, rfl, fun i hi => ?_⟩
        have hi' : i < len0 := by simpa using hi
        have e : ((List.range len0).map Sx).getD i TL.none = Sx i := by simp [hi']
        rw [e]
        have k := cellAt i (by omega)
        have k0 := k 0 (by omega); have k1 := k 1 (by omega); have k2 := k 2 (by omega); have k3 := k 3 (by omega)
        rw [addr_add, addr_add] at k0 k1 k2 k3
        exact ⟨k0, k1, k2, k3⟩
    · simp only [List.mem_map, List.mem_range] at hs
      obtain ⟨i, hi, rfl⟩ := hs
      exact (hS i (by omega)).2.2
    · have e : (List.range len0).map D = ((List.range len0).map Sx).map (dTok H) := by
        rw [List.map_map]
        refine List.map_congr_left fun i hi => ?_
        exact (hS i (by have := List.mem_range.1 hi; omega)).2.1
      rw [← e]
      exact hx1

theorem bk_part {H : Type} {d : DataW H} : ∀ {l : List (DataW H)}, d ∈ l → Rows.uptoBulk d ≤ Rows.uptoBulkAll l
  | x :: r, h => by
    simp only [Rows.uptoBulkAll]
    rcases List.mem_cons.1 h with e | e
    · subst e; omega
    · have := bk_part e; omega
def ocost (l : List TL) : Nat := (l.map fun p => 4 * p.1.t.length + 32).sum
theorem ocost_cons (p : TL) (l : List TL) : ocost (p :: l) = 4 * p.1.t.length + 32 + ocost l := by
  unfold ocost
  rw [List.map_cons, List.sum_cons]
theorem bk_toks {H : Type} : ∀ (l : List TL), ocost l ≤ 8 * Rows.uptoBulkAll (l.map (dTok H)) ∧ l.length ≤ Rows.uptoBulkAll (l.map (dTok H))
  | [] => ⟨by simp [ocost], by simp⟩
  | p :: r => by
    obtain ⟨h1, h2⟩ := bk_toks (H := H) r
    rw [ocost_cons]
    simp only [List.map_cons, Rows.uptoBulkAll, List.length_cons, dTok, Rows.uptoBulk]
    have h3 : 4 * p.1.t.length + 32 ≤ 8 * (p.1.t.length + 5) := by omega
    constructor <;> omega
/-- What came in is small: there is room. -/
theorem bk_room {H : Type} {ds : List (DataW H)} (hk : Rows.uptoSmall H ds = true) {d : DataW H} (hd : d ∈ ds) {l : List TL} (hf : ∀ p ∈ l, Fit p) (e : l = [] ∨ ∃ sp : List (DataW H), d = .slice (l.map (dTok H)) sp) : Room l := by
  have h1 : Rows.uptoBulkAll ds ≤ 1048576 := of_decide_eq_true hk
  have h2 := bk_part hd
  rcases e with rfl | ⟨sp, rfl⟩
  · exact ⟨by simp, fun p hp => (by cases hp), by simp⟩
  · simp only [Rows.uptoBulk] at h2
    obtain ⟨h3, h4⟩ := bk_toks (H := H) l
    refine ⟨by omega, hf, ?_⟩
    have h5 : ocost l ≤ 35184372088832 := by omega
    exact h5
theorem bk_str {H : Type} {ds : List (DataW H)} (hk : Rows.uptoSmall H ds = true) {d : DataW H} (hd : d ∈ ds) {s : ByteArray} (e : d = .lit (.string s.data.toList)) : s.size ≤ 1048576 := by
  have h1 : Rows.uptoBulkAll ds ≤ 1048576 := of_decide_eq_true hk
  have h2 := bk_part hd
  rw [e] at h2
  simp only [Rows.uptoBulk, Array.length_toList] at h2
  have h3 : s.size = s.data.size := rfl
  omega
end Go.Proofs.YthdkbjifjmhgoaaDoor
