/- The contract of the document's Map, whole. -/
import Derived.Test.YtpfmnopokfiheaaDMap
namespace Go.Proofs.Ytpfmnopokfiheaa
open Go.ChangeShapes Go.WideShapes Go.ChangeAt Go.RowKit Go.Maps
set_option linter.unusedVariables false
set_option linter.unusedSimpArgs false

/-- A new page's bytes. -/
def zc : Array Value := (zeroB.map (Value.int .u8)).toArray
theorem zc_eq : (List.replicate 4096 (Value.int .u8 0)).toArray = zc := by unfold zc zeroB; rw [List.map_replicate]
theorem makeP (W : World) : (Instr.makeSlice 31 (.int .i64 4096) (.int .i64 4096)).run Try.prog W = .ok (.slice (some ⟨W.heap.size, 0, none⟩) 4096 4096) (W.alloc (.cells zc 5)) := by
  have := make5 4096 (by omega) W
  rw [zc_eq] at this
  exact this

/-- What lies in memory when j pages have come. -/
structure MpJ (w wr : World) (v : Value) (pb pb' : Nat → Nat) (L : List Pz) (f s j : Nat) (may : Int) : Prop where
  bel : Below w.heap.size w wr
  own : OwnP wr w.heap.size v pb' (L.take s ++ newP f j may)
  old : ∀ p ∈ L, pb' p.k = pb p.k
  lo : ∀ i, i < j → w.heap.size ≤ pb' (f + i)
  hi : ∀ i, i < j → wr.heap[pb' (f + i)]? = some (.cells zc 5)
  inj : ∀ i i', i < j → i' < j → pb' (f + i) = pb' (f + i') → i = i'

theorem MpJ.step {w wr w' : World} {v v' : Value} {pb pb' : Nat → Nat} {L : List Pz} {f s j n : Nat} {may : Int} (h : MpJ w wr v pb pb' L f s j may) (hno : ∀ p ∈ L, f ≤ p.k → f + n ≤ p.k) (hj : j < n)
    (ho : OwnP w' w.heap.size v' (upd pb' (f + j) wr.heap.size) (L.take s ++ newP f j may ++ [⟨f + j, may, zeroB⟩])) (ht : Turn (fun k => v.ownBlock = some k) (wr.alloc (.cells zc 5)) w') :
    MpJ w w' v' pb (upd pb' (f + j) wr.heap.size) L f s (j + 1) may := by
  have hsz := h.bel.size
  have hv : ∀ k, v.ownBlock = some k → w.heap.size ≤ k ∧ k < wr.heap.size := fun k hk => h.own.lt k hk
  have hv5 : ∀ (k : Nat) (c : Array Value), wr.heap[k]? = some (.cells c 5) → v.ownBlock ≠ some k := fun k c hk e => by
    rcases h.own.2 with ⟨hv', _⟩ | ⟨g, cap, cur, hv', _, hg, _⟩
    · rw [hv'] at e; cases e
    · rw [hv'] at e
      cases e
      rw [hg] at hk
      injection hk with hk
      injection hk with h1 h2
      cases h2
  refine ⟨?_, ?_, fun p hp => ?_, fun i hi => ?_, fun i hi => ?_, fun i i' hi hi' e => ?_⟩
  · exact (h.bel.alloc hsz _).trans (ht.below (by simp; omega) (fun k hk => (hv k hk).1))
  · rw [newP_succ, ← List.append_assoc]; exact ho
  · unfold upd
    rw [if_neg (fun e => by have := hno p hp (by omega); omega)]
    exact h.old p hp
  · unfold upd
    split
    · exact hsz
    · exact h.lo i (by omega)
  · by_cases e : i = j
    · subst e
      have e1 : upd pb' (f + i) wr.heap.size (f + i) = wr.heap.size := by simp [upd]
      rw [e1, ht.block _ (by simp) (fun c => by have := (hv _ c).2; omega)]
      exact heap_last wr _
    · have e1 : upd pb' (f + j) wr.heap.size (f + i) = pb' (f + i) := by unfold upd; rw [if_neg (by omega)]
      have h1 := h.hi i (by omega)
      have hlt : pb' (f + i) < wr.heap.size := (Array.getElem?_eq_some_iff.1 h1).1
      rw [e1, ht.block _ (by simp; omega) (hv5 _ _ h1)]
      have : (wr.alloc (.cells zc 5)).heap[pb' (f + i)]? = wr.heap[pb' (f + i)]? := ((Below.refl wr.heap.size wr).alloc (Nat.le_refl _) _).block _ hlt
      rw [this]
      exact h1
  · have hl : ∀ i, i < j → pb' (f + i) < wr.heap.size := fun i hi => (Array.getElem?_eq_some_iff.1 (h.hi i hi)).1
    unfold upd at e
    by_cases c : i = j <;> by_cases c' : i' = j
    · omega
    · rw [if_pos (by omega), if_neg (by omega)] at e
      have := hl i' (by omega); omega
    · rw [if_neg (by omega), if_pos (by omega)] at e
      have := hl i (by omega); omega
    · rw [if_neg (by omega), if_neg (by omega)] at e
      exact h.inj i i' (by omega) (by omega) e

theorem MpJ.done {w w1 w2 : World} {rb : Nat} {lv v v2 : Value} {pb pb' : Nat → Nat} {L : List Pz} {f s n : Nat} {may : Int} (h : RA w rb lv pb L) (hJ : MpJ w w1 v pb pb' L f s n may) (hno : ∀ p ∈ L, f ≤ p.k → f + n ≤ p.k)
    (hc : L.filter (fun p => decide (p.k < f)) = L.take s ∧ L.filter (fun p => decide (f ≤ p.k)) = L.drop s) (hb : Below w.heap.size w1 w2) (hv : ∀ (k : Nat) (c : Array Value), w1.heap[k]? = some (.cells c 5) → w2.heap[k]? = w1.heap[k]?) (ho : OwnP w2 w.heap.size v2 pb' (L.take s ++ newP f n may ++ L.drop s)) (hf : f + n ≤ 34359738368) (h0 : 0 ≤ may) (h7 : may ≤ 7) :
    RX w (w2.setCell ⟨rb, 0, none⟩ v2) rb lv pb L (addL L f n may) := by
  have e : addL L f n may = L.take s ++ newP f n may ++ L.drop s := by
    unfold addL
    rw [hc.1, hc.2, List.append_assoc]
    rfl
  have hz : Mz (addL L f n may) := ⟨fun p hp => by
    rcases (addL_mem p).1 hp with hp | ⟨i, hi, rfl⟩
    · exact h.mz.ok p hp
    · exact zeroB_ok (by show f + i < _; omega) h0 h7, addL_up h.mz.up hno⟩
  have hlt : ∀ p ∈ L, pb p.k < w.heap.size := fun p hp => h.blt hp
  refine h.renew2 (hJ.bel.trans hb) (by rw [e]; exact ho) (fun p hp => ?_) (fun p hp q hq e' => ?_) hz
  · rcases (addL_mem p).1 hp with hp | ⟨i, hi, rfl⟩
    · refine ⟨?_, .inl ⟨hp, hJ.old p hp⟩⟩
      rw [hJ.old p hp, (hJ.bel.trans hb).block _ (hlt p hp)]
      exact h.bytes p hp
    · refine ⟨?_, .inr (hJ.lo i hi)⟩
      show w2.heap[pb' (f + i)]? = some (.cells (zeroB.map (Value.int .u8)).toArray 5)
      have h1 := hJ.hi i hi
      rw [hv _ _ h1, h1]
      rfl
  · rcases (addL_mem p).1 hp with hp1 | ⟨i, hi, rfl⟩ <;> rcases (addL_mem q).1 hq with hq1 | ⟨i', hi', rfl⟩
    · rw [hJ.old p hp1, hJ.old q hq1] at e'
      exact h.inj p hp1 q hq1 e'
    · have := hlt p hp1
      have h2 := hJ.lo i' hi'
      rw [hJ.old p hp1] at e'
      simp only at e'
      omega
    · have := hlt q hq1
      have h2 := hJ.lo i hi
      rw [hJ.old q hq1] at e'
      simp only at e'
      omega
    · have := hJ.inj i i' hi hi' e'
      subst this
      rfl
end Go.Proofs.Ytpfmnopokfiheaa
