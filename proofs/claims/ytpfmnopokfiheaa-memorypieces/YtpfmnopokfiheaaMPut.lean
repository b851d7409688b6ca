/- One page more: what the map holds, what lies in memory. -/
import Derived.Test.YtpfmnopokfiheaaMPres
namespace Go.Proofs.Ytpfmnopokfiheaa
open Go.ChangeShapes Go.WideShapes Go.ChangeAt Go.RowKit Go.Maps
set_option linter.unusedVariables false
set_option linter.unusedSimpArgs false
set_option maxRecDepth 100000

theorem fnd_iff {L : List Pz} (hu : L.Pairwise (fun p q => p.k < q.k)) {k : Nat} {p : Pz} : fnd L k = some p ↔ p ∈ L ∧ p.k = k :=
  ⟨fnd_mem, fun ⟨h, e⟩ => by rw [← e]; exact mem_fnd hu h⟩

def upd (pl : Nat → Nat) (k b : Nat) (j : Nat) : Nat := if j = k then b else pl j

/-- L' is L and one page more. -/
structure Plus (L L' : List Pz) (p : Pz) : Prop where
  mem : ∀ q, q ∈ L' ↔ q ∈ L ∨ q = p
  up : L'.Pairwise (fun p q => p.k < q.k)
  len : L'.length = L.length + 1
  new : ∀ q ∈ L, q.k ≠ p.k

theorem Plus.fnd {L L' : List Pz} {p : Pz} (h : Plus L L' p) (hu : L.Pairwise (fun p q => p.k < q.k)) (k : Nat) : fnd L' k = if k = p.k then some p else fnd L k := by
  by_cases e : k = p.k
  · rw [if_pos e]
    exact (fnd_iff h.up).2 ⟨(h.mem p).2 (.inr rfl), e.symm⟩
  · rw [if_neg e]
    cases hf : Go.Proofs.Ytpfmnopokfiheaa.fnd L k with
    | some q =>
      obtain ⟨h1, h2⟩ := fnd_mem hf
      exact (fnd_iff h.up).2 ⟨(h.mem q).2 (.inl h1), h2⟩
    | none =>
      rw [fnd_none] at hf ⊢
      intro q hq e2
      rcases (h.mem q).1 hq with hq | rfl
      · exact hf q hq e2
      · exact e e2.symm

theorem Inv.put {D : DataW Value} {pl : Nat → Nat} {L L' : List Pz} {p : Pz} (h : Inv D pl L) (hu : L.Pairwise (fun p q => p.k < q.k)) (hP : Plus L L' p) (b : Nat) : Inv (D.put (kl p.k) (.held (pgP b))) (upd pl p.k b) L' := by
  have hnew : fnd L p.k = Option.none := fnd_none.2 hP.new
  refine ⟨h.is.put (kl_key _) _, ?_, fun k => ?_, fun k => ?_, fun l hl => ?_⟩
  · rw [size_put h.is, h.has, hnew, h.size, hP.len]; rfl
  · rw [hP.fnd hu]
    by_cases e : k = p.k
    · subst e; rw [if_pos rfl, has_put_same h.is.isMap (kl_key _)]; rfl
    · rw [if_neg e, has_put_other (fun h => e (kl_inj h))]; exact h.has k
  · rw [hP.fnd hu]
    by_cases e : k = p.k
    · subst e; rw [if_pos rfl, atKey_put_same h.is.isMap (kl_key _)]; simp [upd, pgV]
    · rw [if_neg e, atKey_put_other (fun h => e (kl_inj h)), h.at' k]; simp [upd, e]
  · by_cases e : l = kl p.k
    · exact ⟨_, e⟩
    · rw [has_put_other e] at hl; exact h.all l hl

/-- A new page is laid, and put into the map. -/
theorem MA.put {w w2 : World} {mb gb : Nat} {pl : Nat → Nat} {L L' : List Pz} {p : Pz} (h : MA w mb gb pl L) (hP : Plus L L' p) (hp : p.Ok) {D : DataW Value} (hI : Inv D pl L)
    (hown : w2.ownsMap Try.prog 30 RV gb (L.length + 1) (D.put (kl p.k) (.held (pgP w.heap.size)))) (hg : (w.alloc (.cells (pgC p.may p.B) 75)).grownBy w2 (some gb)) :
    MA w2 mb gb (upd pl p.k w.heap.size) L' := by
  have hb : ∀ b, b < w.heap.size → b ≠ gb → w2.heap[b]? = w.heap[b]? := fun b hb hne => by
    rw [hg.block b (by simp; omega) (by simpa using hne), Below.heap_alloc _ _ _ hb]
  refine ⟨?_, ⟨_, by rw [hP.len]; exact hown, hI.put h.mz.up hP _⟩, fun q hq => ?_, fun q hq r hr e => ?_, ⟨fun q hq => ?_, hP.up⟩⟩
  · rw [hb mb h.mlt h.mg]; exact h.cells
  · rcases (hP.mem q).1 hq with hq | rfl
    · have hne := hP.new q hq
      simp only [upd, if_neg hne]
      rw [hb _ (h.plt hq) (h.pg hq)]
      exact h.pages q hq
    · simp only [upd, if_true]
      rw [hg.block _ (by simp) (by have := h.glt; simp; omega)]
      exact heap_last w _
  · rcases (hP.mem q).1 hq with hq | rfl <;> rcases (hP.mem r).1 hr with hr | rfl
    · simp only [upd, if_neg (hP.new q hq), if_neg (hP.new r hr)] at e
      exact h.inj q hq r hr e
    · simp only [upd, if_neg (hP.new q hq)] at e
      have := h.plt hq
      simp at e
      omega
    · simp only [upd, if_neg (hP.new r hr)] at e
      have := h.plt hr
      simp at e
      omega
    · rfl
  · rcases (hP.mem q).1 hq with hq | rfl
    · exact h.mz.ok q hq
    · exact hp

/-- n pages more, from number f on. -/
def addL (L : List Pz) (f n : Nat) (may : Int) : List Pz :=
  L.filter (fun p => decide (p.k < f)) ++ ((List.range n).map (fun i => (⟨f + i, may, zeroB⟩ : Pz)) ++ L.filter (fun p => decide (f ≤ p.k)))

theorem addL_zero {L : List Pz} (hu : L.Pairwise (fun p q => p.k < q.k)) (f : Nat) (may : Int) : addL L f 0 may = L := by
  unfold addL
  simp only [List.range_zero, List.map_nil, List.nil_append]
  induction L with
  | nil => rfl
  | cons p L ih =>
    obtain ⟨h1, h2⟩ := List.pairwise_cons.1 hu
    by_cases e : p.k < f
    · rw [List.filter_cons, if_pos (by simp [e]), List.filter_cons, if_neg (by simp; omega), List.cons_append, ih h2]
    · have : L.filter (fun p => decide (p.k < f)) = [] := by
        rw [List.filter_eq_nil_iff]
        intro q hq
        have := h1 q hq
        simp; omega
      have h3 : L.filter (fun p => decide (f ≤ p.k)) = L := by
        rw [List.filter_eq_self]
        intro q hq
        have := h1 q hq
        simp; omega
      rw [List.filter_cons, if_neg (by simp [e]), List.filter_cons, if_pos (by simp; omega), this, h3, List.nil_append]

theorem addL_mem {L : List Pz} {f n : Nat} {may : Int} (q : Pz) : q ∈ addL L f n may ↔ q ∈ L ∨ ∃ i, i < n ∧ q = ⟨f + i, may, zeroB⟩ := by
  unfold addL
  simp only [List.mem_append, List.mem_filter, List.mem_map, List.mem_range, decide_eq_true_eq]
  constructor
  · rintro (⟨h, _⟩ | ⟨i, hi, rfl⟩ | ⟨h, _⟩)
    · exact .inl h
    · exact .inr ⟨i, hi, rfl⟩
    · exact .inl h
  · rintro (h | ⟨i, hi, rfl⟩)
    · by_cases e : q.k < f
      · exact .inl ⟨h, e⟩
      · exact .inr (.inr ⟨h, by omega⟩)
    · exact .inr (.inl ⟨i, hi, rfl⟩)

theorem addL_len (L : List Pz) (f n : Nat) (may : Int) : (addL L f n may).length = L.length + n := by
  unfold addL
  have : ∀ l : List Pz, (l.filter (fun p => decide (p.k < f))).length + (l.filter (fun p => decide (f ≤ p.k))).length = l.length := by
    intro l
    induction l with
    | nil => rfl
    | cons p l ih =>
      simp only [List.filter_cons]
      by_cases e : p.k < f
      · have e' : ¬ f ≤ p.k := by omega
        simp [e, e']; omega
      · simp [e, Nat.not_lt.1 e]; omega
  have := this L
  simp only [List.length_append, List.length_map, List.length_range]
  omega

theorem addL_up {L : List Pz} (hu : L.Pairwise (fun p q => p.k < q.k)) {f n : Nat} {may : Int} (hno : ∀ p ∈ L, f ≤ p.k → f + n ≤ p.k) : (addL L f n may).Pairwise (fun p q => p.k < q.k) := by
  unfold addL
  refine List.pairwise_append.2 ⟨hu.filter _, List.pairwise_append.2 ⟨?_, hu.filter _, ?_⟩, ?_⟩
  · rw [List.pairwise_map]
    exact List.Pairwise.imp (fun h => by simp; omega) (List.pairwise_lt_range (n := n))
  · intro p hp q hq
    simp only [List.mem_map, List.mem_range] at hp
    obtain ⟨i, hi, rfl⟩ := hp
    simp only [List.mem_filter, decide_eq_true_eq] at hq
    have := hno q hq.1 hq.2
    simp; omega
  · intro p hp q hq
    simp only [List.mem_filter, decide_eq_true_eq] at hp
    simp only [List.mem_append, List.mem_map, List.mem_range, List.mem_filter, decide_eq_true_eq] at hq
    rcases hq with ⟨i, hi, rfl⟩ | hq
    · simp; omega
    · omega

theorem addL_plus {L : List Pz} (hu : L.Pairwise (fun p q => p.k < q.k)) {f n : Nat} {may : Int} (hno : ∀ p ∈ L, f ≤ p.k → f + (n + 1) ≤ p.k) : Plus (addL L f n may) (addL L f (n + 1) may) ⟨f + n, may, zeroB⟩ := by
  refine ⟨fun q => ?_, addL_up hu hno, by rw [addL_len, addL_len]; omega, fun q hq e => ?_⟩
  · rw [addL_mem, addL_mem]
    constructor
    · rintro (h | ⟨i, hi, rfl⟩)
      · exact .inl (.inl h)
      · by_cases e : i = n
        · subst e; exact .inr rfl
        · exact .inl (.inr ⟨i, by omega, rfl⟩)
    · rintro ((h | ⟨i, hi, rfl⟩) | rfl)
      · exact .inl h
      · exact .inr ⟨i, by omega, rfl⟩
      · exact .inr ⟨n, by omega, rfl⟩
  · rcases (addL_mem q).1 hq with h | ⟨i, hi, rfl⟩
    · have := hno q h (by simp at e; omega)
      simp at e
      omega
    · simp at e
      omega

theorem inN_zero {L : List Pz} {f e : Nat} (h : inN L f e = 0) : ∀ p ∈ L, f ≤ p.k → e ≤ p.k := by
  intro p hp hf
  unfold inN at h
  rw [List.length_eq_zero_iff, List.filter_eq_nil_iff] at h
  have := h p hp
  simp [inB, hf] at this
  exact this

theorem zeroB_ok {k : Nat} (hk : k < 34359738368) {may : Int} (h0 : 0 ≤ may) (h7 : may ≤ 7) : Pz.Ok ⟨k, may, zeroB⟩ :=
  ⟨hk, h0, h7, by simp [zeroB], fun x hx => by simp [zeroB] at hx; omega⟩
end Go.Proofs.Ytpfmnopokfiheaa
