/- A step that writes: its bytes twice, as they came in and in a row of the step's own. -/
import Derived.Test.YtpfmnopokfiheaaLNum
import Derived.Test.YtpfmnopokfiheaaLReadW
namespace Go.Proofs.Ytpfmnopokfiheaa
open Go.ChangeShapes Go.WideShapes Go.ChangeAt Go.RowKit Go.Maps
set_option linter.unusedVariables false
set_option linter.unusedSimpArgs false

theorem St2.nxk {w0 : World} {S : Nat → Prop} {w w' : World} {mb gb : Nat} {pl : Nat → Nat} {L L' : List Pz} {rb : Nat} {lv : Value} {pb : Nat → Nat} {M : List Pz} {B : Nat} {k : Int} {a : Nat} {n may x : Int} {bv : Value} (h : St2 w0 S w mb gb pl L rb lv pb M B k a n may x bv) (hk : L'.map (fun p => p.k) = L.map (fun p => p.k)) (h1 : MA w' mb gb pl L') (h2 : Turn (MS mb gb pl L) w w') : St2 w0 S w' mb gb pl L' rb lv pb M B k a n may x bv := by
  refine ⟨⟨h1, h.pr.r.turn h2 fun b hb hm => h.pr.ap b hm hb, fun b hb hr => h.pr.ap b (MS_k hk hb) hr⟩, h.op.turn h.lt h2 fun hb => h.nb (.inl hb), Nat.lt_of_lt_of_le h.lt h2.size, fun hb => h.nb (hb.imp (MS_k hk) id), h.tu.trans' h2 fun i hi hs => ?_, fun b hb => h.new b (hb.imp (MS_k hk) id)⟩
  rcases h.new i (.inl hs) with h5 | h5
  · exact h5
  · omega
theorem St2.rxk {w0 : World} {S : Nat → Prop} {w w' : World} {mb gb : Nat} {pl : Nat → Nat} {L : List Pz} {rb : Nat} {lv : Value} {pb : Nat → Nat} {M M' : List Pz} {B : Nat} {k : Int} {a : Nat} {n may x : Int} {bv : Value} (h : St2 w0 S w mb gb pl L rb lv pb M B k a n may x bv) (hk : M'.map (fun p => p.k) = M.map (fun p => p.k)) (h1 : RA w' rb lv pb M') (h2 : Turn (RS rb lv pb M) w w') : St2 w0 S w' mb gb pl L rb lv pb M' B k a n may x bv := by
  refine ⟨⟨h.pr.m.turn h2 fun b hb hm => h.pr.ap b hb hm, h1, fun b hb hr => h.pr.ap b hb (RS_k hk hr)⟩, h.op.turn h.lt h2 fun hb => h.nb (.inr hb), Nat.lt_of_lt_of_le h.lt h2.size, fun hb => h.nb (hb.imp id (RS_k hk)), h.tu.trans' h2 fun i hi hs => ?_, fun b hb => h.new b (hb.imp id (RS_k hk))⟩
  rcases h.new i (.inr hs) with h5 | h5
  · exact h5
  · omega
/-- Behind a turn of a block that is none of theirs. -/
theorem St2.other {w0 : World} {S : Nat → Prop} {w w' : World} {mb gb : Nat} {pl : Nat → Nat} {L : List Pz} {rb : Nat} {lv : Value} {pb : Nat → Nat} {M : List Pz} {B : Nat} {k : Int} {a : Nat} {n may x : Int} {bv : Value} (h : St2 w0 S w mb gb pl L rb lv pb M B k a n may x bv) {R : Nat → Prop} (ht : Turn R w w') (h1 : ∀ b, PB mb gb pl L rb lv pb M b → ¬ R b) (h2 : ¬ R B) (h3 : ∀ b, R b → w0.heap.size ≤ b) : St2 w0 S w' mb gb pl L rb lv pb M B k a n may x bv :=
  ⟨h.pr.turn ht h1, h.op.turn h.lt ht h2, Nat.lt_of_lt_of_le h.lt ht.size, h.nb, h.tu.trans' ht fun i hi hs => by have := h3 i hs; omega, h.new⟩

theorem Row.turn {w w' : World} {ao : Option Addr} {len : Nat} {bs : Nat → Int} (h : Row w ao len bs) {S : Nat → Prop} (ht : Turn S w w') (hs : 0 < len → ∀ b off, ao = some ⟨b, off, none⟩ → ¬ S b) : Row w' ao len bs := by
  rcases h with h | ⟨b, off, e, h⟩
  · exact .inl h
  · by_cases h0 : len = 0
    · exact .inl h0
    · refine .inr ⟨b, off, e, fun i hi => ?_⟩
      have hl := World.block_lt_of_cell? w ⟨b, off + i, none⟩ (h i hi)
      exact (World.cell?_of_block (ht.block b hl (hs (by omega) b off e))).trans (h i hi)
theorem Row.bel {w w' : World} {ao : Option Addr} {len : Nat} {bs : Nat → Int} (h : Row w ao len bs) (hb : Below w.heap.size w w') : Row w' ao len bs := h.below hb (Nat.le_refl _)

/-- Where a step that writes is. -/
structure St3 (w0 : World) (S : Nat → Prop) (w : World) (mb gb : Nat) (pl : Nat → Nat) (L : List Pz) (rb : Nat) (lv : Value) (pb : Nat → Nat) (M : List Pz) (B : Nat) (k : Int) (a : Nat) (n may x : Int) (ao : Option Addr) (len cap : Nat) (bs : Nat → Int) (g gc : Nat) : Prop where
  st : St2 w0 S w mb gb pl L rb lv pb M B k a n may x (.slice ao len cap)
  own : Own w w0.heap.size (.slice (some ⟨g, 0, none⟩) len gc) (lst bs len)
  ng : ¬ PB mb gb pl L rb lv pb M g
  gB : g ≠ B
  row : Row w ao len bs
  na : 0 < len → ∀ b off, ao = some ⟨b, off, none⟩ → ¬ PB mb gb pl L rb lv pb M b
theorem own_at {w : World} {base g len gc : Nat} {xs : List Int} (h : Own w base (.slice (some ⟨g, 0, none⟩) len gc) xs) : base ≤ g ∧ len = xs.length ∧ len ≤ gc ∧ gc ≤ 9223372036854775807 ∧ g < w.heap.size := by
  rcases h.2 with ⟨hv, _⟩ | ⟨g', cap', cur, hv, h1, h2, h3, h4, _⟩
  · cases hv
  · simp only [Value.slice.injEq, Option.some.injEq, Addr.mk.injEq] at hv
    obtain ⟨⟨rfl, _⟩, rfl, rfl⟩ := hv
    unfold maxLen at h4
    exact ⟨h1, rfl, h3, by omega, (Array.getElem?_eq_some_iff.1 h2).1⟩
theorem St3.nxk {w0 : World} {S : Nat → Prop} {w w' : World} {mb gb : Nat} {pl : Nat → Nat} {L L' : List Pz} {rb : Nat} {lv : Value} {pb : Nat → Nat} {M : List Pz} {B : Nat} {k : Int} {a : Nat} {n may x : Int} {ao : Option Addr} {len cap : Nat} {bs : Nat → Int} {g gc : Nat} (h : St3 w0 S w mb gb pl L rb lv pb M B k a n may x ao len cap bs g gc) (hk : L'.map (fun p => p.k) = L.map (fun p => p.k)) (h1 : MA w' mb gb pl L') (h2 : Turn (MS mb gb pl L) w w') : St3 w0 S w' mb gb pl L' rb lv pb M B k a n may x ao len cap bs g gc :=
  ⟨h.st.nxk hk h1 h2, h2.row h.own (fun j hj hm => by simp [Value.ownBlock] at hj; subst hj; exact h.ng (.inl hm)), fun hb => h.ng (hb.imp (MS_k hk) id), h.gB, h.row.turn h2 fun h0 b off e hm => h.na h0 b off e (.inl hm), fun h0 b off e hb => h.na h0 b off e (hb.imp (MS_k hk) id)⟩
theorem St3.rxk {w0 : World} {S : Nat → Prop} {w w' : World} {mb gb : Nat} {pl : Nat → Nat} {L : List Pz} {rb : Nat} {lv : Value} {pb : Nat → Nat} {M M' : List Pz} {B : Nat} {k : Int} {a : Nat} {n may x : Int} {ao : Option Addr} {len cap : Nat} {bs : Nat → Int} {g gc : Nat} (h : St3 w0 S w mb gb pl L rb lv pb M B k a n may x ao len cap bs g gc) (hk : M'.map (fun p => p.k) = M.map (fun p => p.k)) (h1 : RA w' rb lv pb M') (h2 : Turn (RS rb lv pb M) w w') : St3 w0 S w' mb gb pl L rb lv pb M' B k a n may x ao len cap bs g gc :=
  ⟨h.st.rxk hk h1 h2, h2.row h.own (fun j hj hm => by simp [Value.ownBlock] at hj; subst hj; exact h.ng (.inr hm)), fun hb => h.ng (hb.imp id (RS_k hk)), h.gB, h.row.turn h2 fun h0 b off e hm => h.na h0 b off e (.inr hm), fun h0 b off e hb => h.na h0 b off e (hb.imp id (RS_k hk))⟩
theorem lst_byte {bs : Nat → Int} (h : ∀ i, 0 ≤ bs i ∧ bs i < 256) (len : Nat) : ∀ y ∈ lst bs len, 0 ≤ y ∧ y < 256 := by
  intro y hy
  unfold lst at hy
  obtain ⟨i, _, rfl⟩ := List.mem_map.1 hy
  exact h i
theorem lst_getD (bs : Nat → Int) {len i : Nat} (h : i < len) : (lst bs len).getD i 0 = bs i := by simp [lst, h]
theorem St3.src {w0 : World} {S : Nat → Prop} {w : World} {mb gb : Nat} {pl : Nat → Nat} {L : List Pz} {rb : Nat} {lv : Value} {pb : Nat → Nat} {M : List Pz} {B : Nat} {k : Int} {a : Nat} {n may x : Int} {ao : Option Addr} {len cap : Nat} {bs : Nat → Int} {g gc : Nat} (h : St3 w0 S w mb gb pl L rb lv pb M B k a n may x ao len cap bs g gc) (hb : ∀ i, 0 ≤ bs i ∧ bs i < 256) : Src w mb gb pl L (.slice (some ⟨g, 0, none⟩) len gc) (lst bs len) := by
  obtain ⟨_, _, h3, h4, _⟩ := own_at h.own
  refine ⟨⟨_, gc, by rw [lst_len], by rw [lst_len]; exact h3, h4, ?_⟩, lst_byte hb len⟩
  by_cases h0 : len = 0
  · left; rw [lst_len]; exact h0
  · right
    obtain ⟨g', gc', hv, _, _, hc⟩ := h.own.lies (by rw [lst_len]; omega)
    simp only [Value.slice.injEq, Option.some.injEq, Addr.mk.injEq] at hv
    obtain ⟨⟨rfl, _⟩, _, _⟩ := hv
    exact ⟨g, 0, rfl, fun hm => h.ng (.inl hm), fun i hi => by rw [Nat.zero_add]; exact hc i hi⟩
theorem St3.rsrc {w0 : World} {S : Nat → Prop} {w : World} {mb gb : Nat} {pl : Nat → Nat} {L : List Pz} {rb : Nat} {lv : Value} {pb : Nat → Nat} {M : List Pz} {B : Nat} {k : Int} {a : Nat} {n may x : Int} {ao : Option Addr} {len cap : Nat} {bs : Nat → Int} {g gc : Nat} (h : St3 w0 S w mb gb pl L rb lv pb M B k a n may x ao len cap bs g gc) (hb : ∀ i, 0 ≤ bs i ∧ bs i < 256) : RSrc w rb lv pb M ao (lst bs len) := by
  refine ⟨?_, lst_byte hb len⟩
  by_cases h0 : len = 0
  · left; subst h0; rfl
  · right
    rcases h.row with e | ⟨b, off, e, hc⟩
    · omega
    · refine ⟨b, off, e, fun hm => h.na (by omega) b off e (.inr hm), fun i hi => ?_⟩
      rw [lst_len] at hi
      rw [lst_getD bs hi]
      exact hc i hi
/-- The step's own row, written over. -/
theorem St3.spoil {w0 : World} {S : Nat → Prop} {w : World} {mb gb : Nat} {pl : Nat → Nat} {L : List Pz} {rb : Nat} {lv : Value} {pb : Nat → Nat} {M : List Pz} {B : Nat} {k : Int} {a : Nat} {n may x : Int} {ao : Option Addr} {len cap : Nat} {bs : Nat → Int} {g gc : Nat} (h : St3 w0 S w mb gb pl L rb lv pb M B k a n may x ao len cap bs g gc) (hb : ∀ i, 0 ≤ bs i ∧ bs i < 256) (hl : len ≤ 140737488355328) :
    Calls Try.prog 37 #[.slice (some ⟨g, 0, none⟩) len gc] w fun e w' => e = .returned (.tuple #[]) ∧ St2 w0 S w' mb gb pl L rb lv pb M B k a n may x (.slice ao len cap) := by
  refine (spoil_any (some ⟨g, 0, none⟩) len gc g w hl (.inr ⟨rfl, h.own.soft (lst_byte hb len)⟩)).mono ?_
  rintro e w' ⟨rfl, ht⟩
  refine ⟨rfl, h.st.other ht (fun b hb ⟨e, _⟩ => h.ng (e ▸ hb)) (fun ⟨e, _⟩ => h.gB e.symm) (fun b ⟨e, _⟩ => ?_)⟩
  have := (own_at h.own).1
  omega
/-- The step's own row is made. -/
theorem st3_start {w0 : World} {S : Nat → Prop} {w w' : World} {mb gb : Nat} {pl : Nat → Nat} {L : List Pz} {rb : Nat} {lv : Value} {pb : Nat → Nat} {M : List Pz} {B : Nat} {k : Int} {a : Nat} {n may x : Int} {ao : Option Addr} {len cap : Nat} {bs : Nat → Int} {g gc : Nat} (h : St2 w0 S w mb gb pl L rb lv pb M B k a n may x (.slice ao len cap)) (hr : Row w ao len bs) (hna : 0 < len → ∀ b off, ao = some ⟨b, off, none⟩ → ¬ PB mb gb pl L rb lv pb M b) (hb : Below w.heap.size w w') (ho : Own w' w.heap.size (.slice (some ⟨g, 0, none⟩) len gc) (lst bs len)) : St3 w0 S w' mb gb pl L rb lv pb M B k a n may x ao len cap bs g gc := by
  obtain ⟨h1, _⟩ := own_at ho
  refine ⟨h.bel hb, ?_, fun hp => by have := h.pr.lt hp; omega, by have := h.lt; omega, hr.bel hb, hna⟩
  refine ⟨ho.1, ?_⟩
  rcases ho.2 with hv | ⟨g', c', cur, hv, h2, h3⟩
  · exact .inl hv
  · exact .inr ⟨g', c', cur, hv, by have := h.tu.size; omega, h3⟩
end Go.Proofs.Ytpfmnopokfiheaa
